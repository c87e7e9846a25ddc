/- The texts that these laws rest on, put together, part 2. Conditions: as each says. -/
import Derived.Test.YtajojgimbagjoaaGreatDoorBaseA
import Derived.Sort.QuietIn
import Derived.IntWalk
import Derived.Lib.IndexMore
import Derived.RangeFuncBox
import Derived.Lib.SlBytesConst
import Derived.Lib.SmallJoins

namespace Go.Proofs.YtajojgimbagjoaaGreatDoor.Org
open Url
set_option linter.unusedVariables false

/-- A URL's text up to its path. -/
def placeU (u : U) : List UInt8 := u.scheme ++ [58, 47, 47] ++ u.host ++ portT u
/-- The URL of its path "/". -/
def rootU (u : U) : U := { u with path := [47], query := [], frag := [], hq := false, hf := false }

theorem root_ok (u : U) (h : Ok u) : Ok (rootU u) :=
  ⟨h.scheme, h.host, h.low, h.port1, h.port2, path_ok [] [47] rfl, rfl, fun _ => rfl, rfl, fun _ => rfl⟩
theorem root_text (u : U) : textU (rootU u) = placeU u ++ [47] := by
  have h1 : portT (rootU u) = portT u := rfl
  have h2 : queryT (rootU u) = [] := rfl
  have h3 : fragT (rootU u) = [] := rfl
  unfold textU
  rw [h1, h2, h3, List.append_nil, List.append_nil]; rfl
theorem root_len (u : U) (h : Ok u) : (textU (rootU u)).length ≤ (textU u).length := by
  obtain ⟨R, hR, hp, hx⟩ := h.path
  rw [root_text]
  unfold textU placeU
  rw [hp]
  simp only [List.length_append, List.length_cons, List.length_nil]
  omega

/-- One text, one server. -/
theorem place_inj (u v : U) (hu : Ok u) (hv : Ok v) (lu : (textU u).length ≤ 4096) (lv : (textU v).length ≤ 4096) (h : placeU u = placeU v) : u.scheme = v.scheme ∧ u.host = v.host ∧ u.port = v.port := by
  have e : textU (rootU u) = textU (rootU v) := by rw [root_text, root_text, h]
  have pu := parse_text (rootU u) (root_ok u hu) (Nat.le_trans (root_len u hu) lu)
  have pv := parse_text (rootU v) (root_ok v hv) (Nat.le_trans (root_len v hv) lv)
  rw [e] at pu
  have e2 : rootU u = rootU v := Sum.inr.inj (pu.symm.trans pv)
  exact ⟨congrArg (·.scheme) e2, congrArg (·.host) e2, congrArg (·.port) e2⟩
theorem place_eq (u v : U) (h : u.scheme = v.scheme ∧ u.host = v.host ∧ u.port = v.port) : placeU u = placeU v := by
  obtain ⟨h1, h2, h3⟩ := h
  unfold placeU portT
  rw [h1, h2, h3]

/-- What may not stand in a server's name and port. -/
theorem name_no (u : U) (h : Ok u) (d : UInt8) (h1 : Host.hostByte d = false) (h2 : d ≠ 46) (h3 : Ref.decB d = false) (h4 : d ≠ 58) : d ∉ u.host ++ portT u := by
  rw [List.mem_append, not_or]
  exact ⟨host_no u.host h.host d h1 h2, port_no u d h3 h4⟩

/-- A server's text is parsed to the URL of its path "/". -/
theorem place_rest (u : U) (h : Ok u) : restU u.scheme (u.host ++ portT u) = .inr (rootU u) := by
  have n35 := name_no u h 35 (by decide) (by decide) (by decide) (by decide)
  have n63 := name_no u h 63 (by decide) (by decide) (by decide) (by decide)
  have n47 := name_no u h 47 (by decide) (by decide) (by decide) (by decide)
  have hh58 := host_no u.host h.host 58 (by decide) (by decide)
  obtain ⟨a1, a2⟩ := ahead_no 35 _ n35
  obtain ⟨b1, b2⟩ := ahead_no 63 _ n63
  obtain ⟨c1, _⟩ := ahead_no 47 _ n47
  have c5 : aheadL 58 (u.host ++ portT u) = u.host ∧ portL u.scheme (Host.tailL 58 (u.host ++ portT u)) = some u.port := by
    by_cases ho : u.port = ownP u.scheme
    · have e : portT u = [] := by unfold portT; rw [if_pos ho]
      obtain ⟨h1, h2⟩ := ahead_no 58 _ hh58
      rw [e, List.append_nil, h1, h2, portL, ← ho]; exact ⟨rfl, rfl⟩
    · have e : portT u = 58 :: digL u.port := by unfold portT; rw [if_neg ho]
      obtain ⟨h1, h2⟩ := ahead_yes 58 _ (digL u.port) hh58
      have h3 : Ref.numOf 65535 (digL u.port) = some (u.port : Int) := dig_numOf 65535 u.port h.port1 h.port2
      have h4 := h.port1
      rw [e, h1, h2, portL, h3, Option.bind_some, if_pos (by omega)]
      exact ⟨rfl, by simp⟩
  unfold restU
  simp only
  rw [a1, a2, b1, b2, c1, c5.1, c5.2, List.drop_length, if_neg (by rw [h.host]; simp), h.low]
  rfl
theorem place_parse (u : U) (h : Ok u) (hl : (placeU u).length ≤ 4096) : parseU (placeU u) = .inr (rootU u) := by
  have e : placeU u = u.scheme ++ [58, 47, 47] ++ (u.host ++ portT u) := by unfold placeU; simp only [List.append_assoc]
  have hr := place_rest u h
  unfold parseU
  rw [if_neg (by omega), e]
  rcases h.scheme with hs | hs
  · have hlow : Ref.lowL httpS = httpS := by decide
    rw [hs] at hr ⊢
    rw [sep_http]
    simp only
    rw [hlow, if_pos (.inl rfl), hr]
  · have hlow : Ref.lowL httpsS = httpsS := by decide
    rw [hs] at hr ⊢
    rw [sep_https]
    simp only
    rw [hlow, if_pos (.inr rfl), hr]

/-- The word ahead of a closed one's number. -/
def closedS : List UInt8 := [99, 108, 111, 115, 101, 100, 58]
/-- What an origin's text is: a closed one's number, or a server; or the error's number. -/
def parseO (t : List UInt8) : Sum Int (Sum Nat U) :=
  if closedS.isPrefixOf t then
    match Ref.numOf 1099511627776 (t.drop 7) with
    | some n => if 1 ≤ n then .inr (.inl n.toNat) else .inl 2
    | none => .inl 2
  else match parseU t with
  | .inl e => .inl e
  | .inr u => if 63 ∈ t ∨ 35 ∈ t ∨ t.count 47 ≠ 2 then .inl 2 else .inr (.inr (rootU u))
/-- Its text. -/
def textO : Sum Nat U → List UInt8
  | .inl n => closedS ++ digL n
  | .inr u => placeU u

theorem closed_parse (n : Nat) (h1 : 1 ≤ n) (h2 : n ≤ 1099511627776) : parseO (textO (.inl n)) = .inr (.inl n) := by
  have hp : closedS.isPrefixOf (closedS ++ digL n) = true := by simp
  have hd : (closedS ++ digL n).drop 7 = digL n := rfl
  have h3 := dig_numOf 1099511627776 n h1 h2
  unfold parseO textO
  simp only
  rw [if_pos hp, hd, show Ref.numOf 1099511627776 (digL n) = some (n : Int) from h3]
  simp only
  rw [if_pos (by omega)]; simp
theorem server_parse (u : U) (h : Ok u) (hl : (placeU u).length ≤ 4096) : parseO (textO (.inr u)) = .inr (.inr (rootU u)) := by
  have hs : u.scheme = httpS ∨ u.scheme = httpsS := h.scheme
  have hp : closedS.isPrefixOf (placeU u) = false := by
    unfold placeU
    rcases hs with hs | hs <;> rw [hs] <;> rfl
  have no : ∀ d : UInt8, d ∉ u.scheme → d ∉ [58, 47, 47] → Host.hostByte d = false → d ≠ 46 → Ref.decB d = false → d ≠ 58 → d ∉ placeU u := fun d a b c e f g => by
    have := name_no u h d c e f g
    unfold placeU
    simp only [List.mem_append, not_or] at this ⊢
    exact ⟨⟨⟨a, b⟩, this.1⟩, this.2⟩
  have n63 : (63 : UInt8) ∉ placeU u := no 63 (by rcases hs with hs | hs <;> rw [hs] <;> decide) (by decide) (by decide) (by decide) (by decide) (by decide)
  have n35 : (35 : UInt8) ∉ placeU u := no 35 (by rcases hs with hs | hs <;> rw [hs] <;> decide) (by decide) (by decide) (by decide) (by decide) (by decide)
  have hc : (placeU u).count 47 = 2 := by
    have n47 := name_no u h 47 (by decide) (by decide) (by decide) (by decide)
    have e : placeU u = u.scheme ++ [58, 47, 47] ++ (u.host ++ portT u) := by unfold placeU; simp only [List.append_assoc]
    rw [e, List.count_append, List.count_eq_zero.2 n47]
    rcases hs with hs | hs <;> rw [hs] <;> decide
  unfold parseO textO
  simp only
  rw [if_neg (by rw [hp]; simp), place_parse u h hl]
  simp only
  rw [if_neg (by rw [hc]; simp [n63, n35])]
  rfl

end Go.Proofs.YtajojgimbagjoaaGreatDoor.Org

namespace Go.Proofs.YtajojgimbagjoaaGreatDoor
open Go.RowKit Go.Shelf
attribute [local go_sem] Oper.semAt_some

theorem spansGo_from (p : UInt8 → Bool) : ∀ (l : List UInt8) (i f : Nat), f ≤ i → ∀ x ∈ spansGo p l i f, f ≤ x.1 ∧ x.1 ≤ x.2 ∧ x.2 ≤ i + l.length
  | [], i, f, h, x, hx => by
    simp [spansGo] at hx; subst hx; simp; exact h
  | b :: r, i, f, h, x, hx => by
    unfold spansGo at hx
    split at hx
    · rcases List.mem_cons.1 hx with rfl | hx
      · simp; omega
      · have := spansGo_from p r (i + 1) (i + 1) (Nat.le_refl _) x hx
        simp only [List.length_cons]; omega
    · have := spansGo_from p r (i + 1) f (by omega) x hx
      simp only [List.length_cons]; omega
theorem spansGo_rise (p : UInt8 → Bool) : ∀ (l : List UInt8) (i f : Nat), f ≤ i → ∀ pre x rest, spansGo p l i f = pre ++ x :: rest → ∀ y ∈ rest, x.1 ≤ y.1
  | [], i, f, h, pre, x, rest, hx => by
    cases pre with
    | nil => simp [spansGo] at hx; obtain ⟨_, rfl⟩ := hx; intro y hy; cases hy
    | cons a r => simp [spansGo] at hx
  | b :: r, i, f, h, pre, x, rest, hx => by
    unfold spansGo at hx
    split at hx
    · cases pre with
      | nil =>
        simp at hx
        obtain ⟨rfl, rfl⟩ := hx
        intro y hy
        have := spansGo_from p r (i + 1) (i + 1) (Nat.le_refl _) y hy
        simp only; omega
      | cons a t =>
        simp at hx
        exact spansGo_rise p r (i + 1) (i + 1) (Nat.le_refl _) t x rest hx.2
    · exact spansGo_rise p r (i + 1) f (by omega) pre x rest hx

theorem spansL_bounds (p : UInt8 → Bool) (l : List UInt8) (x : Nat × Nat) (h : x ∈ spansL p l) : x.1 ≤ x.2 ∧ x.2 ≤ l.length := by
  have := spansGo_from p l 0 0 (Nat.le_refl _) x h
  omega

/-- The lines of a text, out of the pieces' bounds. -/
def linesOf (l : List UInt8) (xs : List (Nat × Nat)) : List (List UInt8) := (xs.filter fun x => decide (x.1 < l.length)).map fun x => chomp (sub l x.1 x.2)
def linesL (l : List UInt8) : List (List UInt8) := linesOf l (spansL (isB 10) l)
theorem linesOf_snoc (l : List UInt8) (pre : List (Nat × Nat)) (x : Nat × Nat) (h : x.1 < l.length) : linesOf l (pre ++ [x]) = linesOf l pre ++ [chomp (sub l x.1 x.2)] := by
  unfold linesOf
  simp [List.filter_append, h]
theorem linesOf_end (l : List UInt8) (pre : List (Nat × Nat)) (x : Nat × Nat) (rest : List (Nat × Nat)) (hx : spansL (isB 10) l = pre ++ x :: rest) (h : ¬ x.1 < l.length) : linesL l = linesOf l pre := by
  unfold linesL
  rw [hx]
  unfold linesOf
  rw [List.filter_append, List.filter_cons, if_neg (by simpa using h)]
  have : rest.filter (fun x => decide (x.1 < l.length)) = [] := by
    rw [List.filter_eq_nil_iff]
    intro y hy
    have := spansGo_rise (isB 10) l 0 0 (Nat.le_refl _) pre x rest hx y hy
    simp; omega
  rw [this, List.append_nil]
theorem linesOf_mid (l : List UInt8) (pre : List (Nat × Nat)) (x : Nat × Nat) (rest : List (Nat × Nat)) (hx : spansL (isB 10) l = pre ++ x :: rest) (h : x.1 < l.length) : ∃ r, linesL l = linesOf l pre ++ chomp (sub l x.1 x.2) :: r := by
  refine ⟨linesOf l rest, ?_⟩
  unfold linesL
  rw [hx]
  unfold linesOf
  simp [List.filter_append, h]

theorem isByte10 (w : World) :
    Calls Tryz.prog 76 #[.int .u8 10] w fun e w' => e = .returned (.func (.func 93) #[] #[.pointer (some ⟨w.heap.size, 0, none⟩)]) ∧ w' = w.alloc (.cells #[.int .u8 10] 5) := isByte_any 10 w

end Go.Proofs.YtajojgimbagjoaaGreatDoor

namespace Go.Proofs.YtajojgimbagjoaaGreatDoor.Pct
open Go.RowKit Go.Shelf
theorem wide_fn (f : FuncId) : Fence.wide.fn f = True := rfl
attribute [local go_sem] Oper.semAt_some wide_fn

/-- A byte and whether it stood encoded, as yield takes them. -/
def ItArg (x : UInt8 × Bool) (args : Array Value) (G : Nat → Prop) (_W : World) : Prop := args = #[.int .u8 (x.1.toNat : Int), .bool x.2] ∧ G = fun _ => False

theorem Keep.drewN (S : Nat → Prop) (w : World) (k : Nat) : Keep S w (w.drewN k) := ⟨rfl, rfl, rfl, Nat.le_refl _, fun _ _ _ => rfl⟩
/-- A call of yield, outside of a round. -/
theorem uponIn_yield {P : Program} {o : Oper} {a : Act} {K : Act → World → Prop} {Q : Exit → Act → World → Prop} {l : Nat} {args : Array Value} {W : World} {R : Ending → World → Prop} (h : YieldAt Fence.wide 0 P l args W R)
    (hk : ∀ v w, R (.returned v) w → K (a.put o.dst v) w) (hp : ∀ c w, ¬ R (.panicked c) w) (ho : ∀ w, ¬ R .outgrown w) : Oper.uponIn Fence.wide 1 P o a K Q ((Instr.yield l args).run P W) := by
  obtain ⟨fn, tmps, assign, body, hy, hR⟩ := h
  rw [hy]
  simp only [Oper.uponIn]
  refine ⟨fun _ => Nat.le_refl _, RoundIn.mono hR fun e w' hr => ?_⟩
  cases e with
  | returned v => exact hk v w' hr
  | panicked c => exact (hp c w' hr).elim
  | outgrown => exact (ho w' hr).elim

theorem bytes_keep {S : Nat → Prop} {w w' : World} {q : Option Addr} {n : Nat} {xs : List Int} (h : Lib.BytesIn w q n xs) (hk : Keep S w w') (hq : ∀ a, q = some a → 0 < n → S a.block) : Lib.BytesIn w' q n xs := fun h0 => by
  obtain ⟨b, o, rfl, hc⟩ := h.at h0
  have hlt := World.block_lt_of_cell? w _ (hc 0 h0)
  have hb := hk.block b hlt (hq _ rfl h0)
  exact ⟨b, o, rfl, fun i hi => by rw [← hc i hi]; simp only [World.cell?, hb]⟩

theorem meant_any (q : Option Addr) (n c : Nat) (w : World) :
    Calls Tryz.prog 55 #[.slice q n c] w fun e w' => e = .returned (.func (.func 79) #[] #[.pointer (some ⟨w.heap.size, 0, none⟩)]) ∧ w' = w.alloc (.cells #[.slice q n c] 22) := by
  go_enter Tryz.func55, Tryz.ntmps55
  go_wp2
  go_ret
  exact ⟨rfl, rfl⟩

theorem worth_lt' (x : UInt8) (h : hexB x = true) : (worth x).toNat < 16 := by
  have h' : ∀ i : Fin 256, hexB (UInt8.ofNat i.1) = true → (worth (UInt8.ofNat i.1)).toNat < 16 := by decide +kernel
  have h1 := h' ⟨x.toNat, u8_lt x⟩
  rw [UInt8.ofNat_toNat] at h1
  exact h1 h
theorem or_nat : ∀ u v : Fin 16, bits BinOp.or IntKind.u8 ((u.1 : Int) * 16 % 256) (v.1 : Int) = ((((UInt8.ofNat u.1) <<< 4) ||| (UInt8.ofNat v.1)).toNat : Int) := by decide +kernel
theorem or_pair (x y : UInt8) (hx : hexB x = true) (hy : hexB y = true) : bits BinOp.or IntKind.u8 (((worth x).toNat : Int) * 16 % 256) ((worth y).toNat : Int) = ((pairV x y).toNat : Int) := by
  have h := or_nat ⟨(worth x).toNat, worth_lt' x hx⟩ ⟨(worth y).toNat, worth_lt' y hy⟩
  simp only [UInt8.ofNat_toNat] at h
  exact h
theorem worth_same (b : UInt8) (w : World) (hx : hexB b = true) :
    Calls Tryz.prog 80 #[.int .u8 (b.toNat : Int)] w fun e w' => e = .returned (.int .u8 ((worth b).toNat : Int)) ∧ w' = w :=
  (worth_any b w hx).mono fun _ _ ⟨h1, h2⟩ => ⟨h1, h2.symm⟩

set_option maxRecDepth 100000 in
set_option maxHeartbeats 4000000 in
theorem meant1_iter (B : Nat) (q : Option Addr) (n c : Nat) (bs : List UInt8) (m : List (UInt8 × Bool)) (RB : Nat → Prop) (w0 : World) (hx : bs.length = n) (hn : n ≤ 140737488355328) (hm : itemsL bs = some m)
    (h : Lib.BytesIn w0 q n (Lib.numsL bs)) (hq : ∀ a, q = some a → 0 < n → RB a.block) (b : Boxed w0 B 22 (.slice q n c)) (hR : RB B) :
    IterC Tryz.prog 79 #[.pointer (some ⟨B, 0, none⟩)] ItArg m RB w0 := by
  intro l J Jx W hW hJ hJx hY h0
  refine (callsIn_wide (n := 1)).1 ?_
  refine callsIn_of_wp Tryz.func79 rfl trivial ?_ rfl
  simp only [Tryz.ntmps79, List.size_toArray, List.length_cons, List.length_nil, Nat.reduceAdd, Nat.reduceSub, Array.replicate_succ, Array.replicate_zero, List.push_toArray, List.append_toArray, List.nil_append, List.cons_append]
  have hl := Lib.hid hx
  have HM := Lib.hid hm
  clear hx hm
  gi_wp2
  gi_loopw [3] (fun i wr => ∃ k : Nat, ∃ pre rest : List (UInt8 × Bool), k ≤ n ∧ i = .int .i64 k ∧ Keep RB W wr ∧ Hid (m = pre ++ rest) ∧ Hid (itemsL (bs.drop k) = some rest) ∧ J pre (fun _ => False) wr) (fun i _ => n - (intOf i).toNat)
  case atStart => exact ⟨0, [], m, Nat.zero_le _, rfl, Keep.refl _ _, rfl, HM.out, h0⟩
  case round =>
    obtain ⟨k, pre, rest, hk, rfl, hK, HX, HI, hJr⟩ := hrel
    have k1 := ((hW.trans hK).boxed b hR).cell
    by_cases hlt : k < n
    · obtain ⟨bb, o, hqe, hc⟩ := (bytes_keep h (hW.trans hK) hq).at (by omega)
      subst hqe
      have hck : wr.cell? ⟨bb, o + k, none⟩ = some (.int .u8 ((bs.getD k 0).toNat : Int)) := by
        rw [← numsL_getD bs k (by rw [hl.out]; exact hlt)]; exact hc k hlt
      rcases items_step bs k rest (by rw [hl.out]; exact hlt) HI.out with ⟨hne, m', hr, hi⟩ | ⟨heq, hk2, hx1, hx2, m', hr, hi⟩
      · generalize bs.getD k 0 = x at *
        have e1 : ((x.toNat : Int) == 37) = false := by
          rw [beq_eq_false_iff_ne]; intro h; exact hne (UInt8.toNat_inj.1 (by have : (37 : UInt8).toNat = 37 := rfl; omega))
        have HX2 := Lib.hid (show m = pre ++ (x, false) :: m' by rw [HX.out, hr])
        have HI2 := Lib.hid hi
        clear HX hr hi hc hne HI h HM
        gi_wp2_with (gi_quiet (fail))
        refine uponIn_yield (hY pre (x, false) _ (fun _ => False) (fun _ => False) #[.int .u8 (x.toNat : Int), .bool false] _ HX2.out (hJ _ _ _ _ _ hJr (Keep.drewN _ _ _) (fun _ h => h.elim)) (fun _ h => h.elim) ⟨rfl, rfl⟩ (fun _ h => h)) ?_ ?_ ?_
        rotate_left
        · rintro c w ⟨_, ⟨h, _⟩ | ⟨h, _⟩⟩ <;> cases h
        · rintro w ⟨_, ⟨h, _⟩ | ⟨h, _⟩⟩ <;> cases h
        clear hY
        rintro v W3 ⟨hk3, (⟨he, hJ3⟩ | ⟨he, hJx3⟩)⟩
        all_goals cases he
        · have hK3 : Keep RB wr W3 := (Keep.drewN RB wr _).trans (hk3.mono fun _ _ h => .inl h)
          gi_wp2
          go_roundw
          case rel => exact ⟨k + 1, pre ++ [(x, false)], m', by omega, by go_num, hK.trans hK3, Lib.hid (by rw [HX2.out]; simp), HI2, hJ _ _ _ _ _ hJ3 (Keep.refl _ _) (fun _ h => h.elim)⟩
          case measure => simp [intOf]; omega
        · gi_wp2
          refine bodyPost_ret (results_none rfl _ _ _) rfl ?_
          exact ⟨⟨_, rfl⟩, fun _ => False, fun _ h => h.elim, .inr ⟨pre ++ [(x, false)], _, by rw [HX2.out, List.append_assoc]; rfl, hJx _ _ _ _ _ hJx3 (Keep.refl _ _) (fun _ h => h.elim)⟩⟩
      · have hk2' : k + 2 < n := by have := hl.out; omega
        have hc1 : wr.cell? ⟨bb, o + (k + 1), none⟩ = some (.int .u8 ((bs.getD (k + 1) 0).toNat : Int)) := by
          rw [← numsL_getD bs (k + 1) (by omega)]; exact hc (k + 1) (by omega)
        have hc2 : wr.cell? ⟨bb, o + (k + 2), none⟩ = some (.int .u8 ((bs.getD (k + 2) 0).toNat : Int)) := by
          rw [← numsL_getD bs (k + 2) (by omega)]; exact hc (k + 2) hk2'
        rw [heq] at hck
        generalize bs.getD (k + 1) 0 = x at *
        generalize bs.getD (k + 2) 0 = y at *
        have HX2 := Lib.hid (show m = pre ++ (pairV x y, true) :: m' by rw [HX.out, hr])
        have HI2 := Lib.hid hi
        clear HX hr hi hc HI h heq hk2 HM
        have s1 : IntKind.i64.wrap ((k : Int) + 1) = (k : Int) + 1 := IntWalk.i64_in _ (by omega)
        have s2 : IntKind.i64.wrap ((k : Int) + 2) = (k : Int) + 2 := IntWalk.i64_in _ (by omega)
        have p1 : (0 : Int) ≤ (k : Int) + 1 := by omega
        have p2 : (0 : Int) ≤ (k : Int) + 2 := by omega
        have q1 : (k : Int) + 1 < (n : Int) := by omega
        have q2 : (k : Int) + 2 < (n : Int) := by omega
        have t1 : ((k : Int) + 1).toNat = k + 1 := by omega
        have t2 : ((k : Int) + 2).toNat = k + 2 := by omega
        gi_wp2_with (gi_quiet (fail))
        refine wpIn_region_quiet_lit rfl (by kernel_rfl) (by kernel_rfl) ?_
        repeat (gi_big_quiet_step (fail))
        refine wpQuietIn_step (fun _ _ _ _ => trivial) (fun K hK => ?_)
        go_simp
        refine ⟨.int .u8 ((worth x).toNat : Int), fun a => (callsIn_wide.2 (worth_same x _ hx1)).mono ?_, ?_⟩
        · rintro e w2 ⟨rfl, rfl⟩; exact ⟨rfl, a, rfl⟩
        refine hK _ ?_
        clear hK K
        repeat (gi_big_quiet_step (fail))
        refine wpQuietIn_step (fun _ _ _ _ => trivial) (fun K hK => ?_)
        go_simp
        refine ⟨.int .u8 ((worth y).toNat : Int), fun a => (callsIn_wide.2 (worth_same y _ hx2)).mono ?_, ?_⟩
        · rintro e w2 ⟨rfl, rfl⟩; exact ⟨rfl, a, rfl⟩
        refine hK _ ?_
        clear hK K
        repeat (gi_big_quiet_step (fail))
        refine wpQuietIn_nil ?_
        rintro w' ⟨nq2, rfl⟩
        rw [or_pair x y hx1 hx2]
        have hdd : ∀ j, Keep RB wr (wr.drewN j) := fun j => Keep.drewN RB wr j
        have hjj : ∀ j, J pre (fun _ => False) (wr.drewN j) := fun j => hJ _ _ _ _ _ hJr (Keep.drewN _ _ j) (fun _ h => h.elim)
        generalize pairV x y = pv at *
        have hpv := u8_lt pv
        clear hx1 hx2 hc1 hc2 hck k1 s1 p1 q1 t1 p2 q2 t2
        gi_wp2
        refine uponIn_yield (hY pre (pv, true) _ (fun _ => False) (fun _ => False) #[.int .u8 (pv.toNat : Int), .bool true] _ HX2.out (hjj _) (fun _ h => h.elim) ⟨rfl, rfl⟩ (fun _ h => h)) ?_ ?_ ?_
        rotate_left
        · rintro c w ⟨_, ⟨h, _⟩ | ⟨h, _⟩⟩ <;> cases h
        · rintro w ⟨_, ⟨h, _⟩ | ⟨h, _⟩⟩ <;> cases h
        clear hY
        rintro v W3 ⟨hk3, (⟨he, hJ3⟩ | ⟨he, hJx3⟩)⟩
        all_goals cases he
        · have hK3 : Keep RB wr W3 := (hdd _).trans (hk3.mono fun _ _ h => .inl h)
          gi_wp2
          go_roundw
          case rel => exact ⟨k + 3, pre ++ [(pv, true)], m', by omega, by go_num, hK.trans hK3, Lib.hid (by rw [HX2.out]; simp), HI2, hJ _ _ _ _ _ hJ3 (Keep.refl _ _) (fun _ h => h.elim)⟩
          case measure => simp [intOf]; omega
        · gi_wp2
          refine bodyPost_ret (results_none rfl _ _ _) rfl ?_
          exact ⟨⟨_, rfl⟩, fun _ => False, fun _ h => h.elim, .inr ⟨pre ++ [(pv, true)], _, by rw [HX2.out, List.append_assoc]; rfl, hJx _ _ _ _ _ hJx3 (Keep.refl _ _) (fun _ h => h.elim)⟩⟩
    · have HX2 := Lib.hid (show m = pre by
        have h1 := HI.out
        rw [List.drop_of_length_le (by rw [hl.out]; omega), items_nil] at h1
        cases h1
        rw [HX.out, List.append_nil])
      clear HX HI h hY HM
      gi_wp2
      refine bodyPost_end (results_none rfl _ _ _) rfl ?_
      exact ⟨⟨_, rfl⟩, fun _ => False, fun _ h => h.elim, .inl (by rw [HX2.out]; exact hJr)⟩

end Go.Proofs.YtajojgimbagjoaaGreatDoor.Pct

namespace Go.Proofs.YtajojgimbagjoaaGreatDoor.Ref
open Go.RowKit Go.Shelf

theorem below_drewN (w : World) (q : Nat) : Below w.heap.size w (w.drewN q) := ⟨rfl, rfl, rfl, Nat.le_refl _, fun _ _ => rfl⟩
/-- A text as a string's bytes. -/
theorem str_of (x : List UInt8) : ∃ s : ByteArray, s.data.toList = x ∧ strV x = .string s := ⟨⟨x.toArray⟩, by simp, rfl⟩
theorem part_parts (p : List UInt8) : Host.partB p = (!p.isEmpty && decide (p.length ≤ 63) && p.getD 0 0 != 45 && p.getD (p.length - 1) 0 != 45 && p.all Host.hostByte) := rfl
theorem hostByte_of (b : UInt8) : Host.hostByte b = (letB b || decB b || b == 45) := rfl
theorem all_host_drop (l : List UInt8) (k : Nat) (h : k < l.length) : (l.drop k).all Host.hostByte = (Host.hostByte (l.getD k 0) && (l.drop (k + 1)).all Host.hostByte) := by
  rw [drop_cons l k h, List.all_cons]
theorem all_part_drop (l : List (List UInt8)) (k : Nat) (h : k < l.length) : (l.drop k).all Host.partB = (Host.partB (l.getD k []) && (l.drop (k + 1)).all Host.partB) := by
  rw [drop_consS l k h, List.all_cons]
theorem parse_big (t : List UInt8) (h : 253 < t.length) : Host.parseE t = 3 := by unfold Host.parseE; rw [if_pos h]
theorem parse_host (t : List UInt8) (h : ¬ 253 < t.length) (hh : Host.hostB (splitL 46 t) = true) : Host.parseE t = 0 := by unfold Host.parseE; rw [if_neg h, if_pos hh]
theorem parse_none (t : List UInt8) (h : ¬ 253 < t.length) (hh : Host.hostB (splitL 46 t) = false) : Host.parseE t = 2 := by unfold Host.parseE; rw [if_neg h, if_neg (by rw [hh]; simp)]
theorem host_many (l : List (List UInt8)) (h : 8 < l.length) : Host.hostB l = false := by
  unfold Host.hostB; rw [decide_eq_false (by omega)]; rfl
theorem host_part (l : List (List UInt8)) (h : l.all Host.partB = false) : Host.hostB l = false := by
  unfold Host.hostB; rw [h]; simp
theorem host_end (l : List (List UInt8)) (h : ¬ 8 < l.length) (hp : l.all Host.partB = true) (hne : 0 < l.length) : Host.hostB l = (!decB ((l.getD (l.length - 1) []).getD 0 0) || Host.addrB l) := by
  unfold Host.hostB; rw [decide_eq_true (by omega), hp]
  have e : l.getLastD [] = l.getD (l.length - 1) [] := by
    rw [List.getLastD_eq_getLast?, List.getLast?_eq_getElem?]; rfl
  rw [e]; simp

/-- A host's canon, or the error's number. -/
def ParseOut (pe : Int) (lows : List UInt8) (w : World) (e : Ending) (w' : World) : Prop :=
  ∃ x : ByteArray, e = .returned (.tuple #[.string x, .int .i64 pe]) ∧ Hid (x.data.toList = if pe = 0 then lows else []) ∧ Below w.heap.size w w'
theorem out_err {pe n : Int} {lows : List UInt8} {w w' : World} (h : pe = n) (hn : n ≠ 0) (hb : Below w.heap.size w w') : ParseOut pe lows w (.returned (.tuple #[.string ⟨#[]⟩, .int .i64 n])) w' := by
  subst h
  exact ⟨_, rfl, Lib.hid (by rw [if_neg hn]), hb⟩
theorem out_ok {pe : Int} {lows : List UInt8} {w w' : World} {x : ByteArray} (h : pe = 0) (hx : x.data.toList = lows) (hb : Below w.heap.size w w') : ParseOut pe lows w (.returned (.tuple #[.string x, .int .i64 0])) w' := by
  subst h
  exact ⟨_, rfl, Lib.hid (by rw [if_pos rfl]; exact hx), hb⟩

set_option maxRecDepth 100000 in
set_option maxHeartbeats 8000000 in
theorem Parse_any (s : ByteArray) (w : World) (hs : s.size ≤ 1099511627775) :
    Calls Tryz.prog 18 #[.string s] w fun e w' => ParseOut (Host.parseE s.data.toList) (lowL s.data.toList) w e w' := by
  have hl := ba_len s
  by_cases hbig : 253 < s.size
  · have H := Lib.hid (parse_big s.data.toList (by omega))
    have d1 : decide ((253 : Int) < (s.size : Int)) = true := by simp; omega
    clear hl
    go_enter Tryz.func18, Tryz.ntmps18
    go_wp2
    go_ret2
    exact out_err H.out (by decide) (Below.refl _ _)
  · have d1 : decide ((253 : Int) < (s.size : Int)) = false := by simp; omega
    have PH := Lib.hid (parse_host s.data.toList (by omega))
    have PN := Lib.hid (parse_none s.data.toList (by omega))
    have con := Split_any 46 s w hs
    have HP := Lib.hid (split_small 46 s.data.toList)
    have HN : 0 < (splitL 46 s.data.toList).length := List.length_pos_iff.2 (split_ne 46 _)
    obtain ⟨LL, hLL⟩ : ∃ L, s.data.toList = L := ⟨_, rfl⟩
    have hlow := Lower_any s
    rw [hLL] at PH PN con HP HN hlow hl ⊢
    clear hLL
    generalize splitL 46 LL = xs at *
    generalize Host.parseE LL = pe at *
    generalize lowL LL = lows at *
    obtain ⟨n, hn⟩ : ∃ n, xs.length = n := ⟨_, rfl⟩
    rw [hn] at con HN
    have HL := Lib.hid hn
    have hsz : ∀ x ∈ xs, x.length ≤ s.size := fun x hx => by have := HP.out x hx; omega
    have HSZ := Lib.hid hsz
    clear hsz HP hl hn
    go_enter Tryz.func18, Tryz.ntmps18
    go_wp2_with fail
    refine con.mono ?_
    rintro e w2 ⟨v, rfl, hrow, hbel⟩
    obtain ⟨q, c, rfl, _, hnc, hcm, hst, hblk⟩ := strs_row hrow
    clear con hrow hblk
    unfold maxLen at hcm
    by_cases h8 : 8 < n
    · have d2 : decide ((8 : Int) < (n : Int)) = true := by simp; omega
      have H := Lib.hid (PN.out (host_many xs (by rw [HL.out]; exact h8)))
      clear PH PN
      go_wp2
      go_ret2
      exact out_err H.out (by decide) hbel
    · have d2 : decide ((8 : Int) < (n : Int)) = false := by simp; omega
      go_wp2
      clear d1 d2
      go_loop [18] (fun i => ∃ k : Nat, k ≤ n ∧ i = .int .i64 k ∧ Hid (xs.all Host.partB = (xs.drop k).all Host.partB)) (fun i => n - (intOf i).toNat)
      case atStart => exact ⟨0, Nat.zero_le _, rfl, rfl⟩
      case round =>
        obtain ⟨k, hk, rfl, HR⟩ := hrel
        by_cases hlt : k < n
        · obtain ⟨b, o, rfl, _, hc⟩ := hst (by omega)
          have ck := hc k hlt
          have hlx := HL.out
          have hd := all_part_drop xs k (by omega)
          have hm : xs.getD k [] ∈ xs := by
            rw [List.getD, List.getElem?_eq_getElem (by omega)]; exact List.getElem_mem _
          have hsk := HSZ.out _ hm
          generalize xs.getD k [] = x at *
          obtain ⟨p, hp, hpv⟩ := str_of x
          rw [hpv] at ck
          subst hp
          have hpl := ba_len p
          rw [hpl] at hsk
          have HB := Lib.hid (show xs.all Host.partB = (Host.partB p.data.toList && (xs.drop (k + 1)).all Host.partB) by rw [HR.out, hd])
          clear hd hm hpv HR hc hlx
          by_cases hz : p.size = 0
          · have e0 : p.toList.isEmpty = true := by
              rw [Lib.toList_data, List.isEmpty_iff]; exact List.eq_nil_of_length_eq_zero (by omega)
            have H := Lib.hid (PN.out (host_part xs (by rw [HB.out, part_parts, ← Lib.toList_data, e0]; rfl)))
            clear HB PH PN hpl hz
            go_wp2
            go_ret2
            exact out_err H.out (by decide) hbel
          · have hz' : 0 < p.size := by omega
            have e0 : p.toList.isEmpty = false := by
              rw [Lib.toList_data, List.isEmpty_eq_false_iff]; intro h; rw [h] at hpl; simp at hpl; omega
            by_cases h63 : 63 < p.size
            · have d3 : decide ((63 : Int) < (p.size : Int)) = true := by simp; omega
              have H := Lib.hid (PN.out (host_part xs (by rw [HB.out, part_parts, hpl, decide_eq_false (by omega)]; simp)))
              clear HB PH PN hpl hz
              go_wp2
              go_ret2
              exact out_err H.out (by decide) hbel
            · have d3 : decide ((63 : Int) < (p.size : Int)) = false := by simp; omega
              have g0 := ba_get p 0 hz'
              have hlp : p.size - 1 < p.size := Nat.sub_lt hz' Nat.one_pos
              have gl := ba_get p (p.size - 1) hlp
              rw [part_parts, hpl, decide_eq_true (by omega), ← g0, ← gl, ← Lib.toList_data, e0] at HB
              by_cases h45 : p[0] = 45
              · have e1 : ((p[0].toNat : Int) == 45) = true := by rw [h45]; rfl
                have H := Lib.hid (PN.out (host_part xs (by rw [HB.out, h45]; rfl)))
                clear HB PH PN hpl hz h45 g0 gl
                go_wp2
                go_ret2
                exact out_err H.out (by decide) hbel
              · have e1 : ((p[0].toNat : Int) == 45) = false := by
                  rw [beq_eq_false_iff_ne]; intro h; exact h45 (UInt8.toNat_inj.1 (by have : (45 : UInt8).toNat = 45 := rfl; omega))
                by_cases h45' : p[p.size - 1]'hlp = 45
                · have e2 : (((p[p.size - 1]'hlp).toNat : Int) == 45) = true := by rw [h45']; rfl
                  have H := Lib.hid (PN.out (host_part xs (by rw [HB.out, h45']; simp)))
                  clear HB PH PN hpl hz h45 h45' g0 gl
                  go_wp2
                  go_ret2
                  exact out_err H.out (by decide) hbel
                · have e2 : (((p[p.size - 1]'hlp).toNat : Int) == 45) = false := by
                    rw [beq_eq_false_iff_ne]; intro h; exact h45' (UInt8.toNat_inj.1 (by have : (45 : UInt8).toNat = 45 := rfl; omega))
                  have HB2 := Lib.hid (show xs.all Host.partB = (p.data.toList.all Host.hostByte && (xs.drop (k + 1)).all Host.partB) by
                    rw [HB.out, Lib.toList_data, bne_iff_ne.2 h45, bne_iff_ne.2 h45']; simp)
                  clear HB g0 gl h45 h45' hz
                  have HPL := Lib.hid hpl
                  clear hpl
                  go_wp2
                  clear e0 d3 e1 e2
                  go_loop [7] (fun j => ∃ m : Nat, m ≤ p.size ∧ j = .int .i64 m ∧ Hid (p.data.toList.all Host.hostByte = (p.data.toList.drop m).all Host.hostByte)) (fun j => p.size - (intOf j).toNat)
                  case atStart => exact ⟨0, Nat.zero_le _, rfl, rfl⟩
                  case round =>
                    obtain ⟨m, hmm, rfl, HQ⟩ := hrel
                    by_cases hml : m < p.size
                    · have hd := all_host_drop p.data.toList m (by rw [HPL.out]; exact hml)
                      rw [← ba_get p m hml, hostByte_of] at hd
                      have c1 := Letter_any p[m]
                      have c2 := Digit_any p[m]
                      have hbm := u8_lt p[m]
                      cases hle : letB p[m] with
                      | true =>
                        rw [hle] at c1 hd
                        have HQ2 := Lib.hid (show p.data.toList.all Host.hostByte = (p.data.toList.drop (m + 1)).all Host.hostByte by rw [HQ.out, hd]; simp)
                        clear hd hle HQ c2
                        go_wp2_with (go_at_call 35; refine (c1 _).mono ?_; rintro e w' ⟨rfl, rfl⟩)
                        go_round
                        case rel => exact ⟨m + 1, by omega, by go_num, HQ2⟩
                        case measure => simp [intOf]; omega
                      | false =>
                        cases hde : decB p[m] with
                        | true =>
                          rw [hle] at c1 hd
                          rw [hde] at c2 hd
                          have HQ2 := Lib.hid (show p.data.toList.all Host.hostByte = (p.data.toList.drop (m + 1)).all Host.hostByte by rw [HQ.out, hd]; simp)
                          clear hd hle hde HQ
                          go_wp2_with (first | (go_at_call 35; refine (c1 _).mono ?_; rintro e w' ⟨rfl, rfl⟩) | (go_at_call 36; refine (c2 _).mono ?_; rintro e w' ⟨rfl, rfl⟩))
                          go_round
                          case rel => exact ⟨m + 1, by omega, by go_num, HQ2⟩
                          case measure => simp [intOf]; omega
                        | false =>
                          rw [hle] at c1 hd
                          rw [hde] at c2 hd
                          by_cases hmi : p[m] = 45
                          · have e3 : ((p[m].toNat : Int) != 45) = false := by rw [hmi]; rfl
                            have HQ2 := Lib.hid (show p.data.toList.all Host.hostByte = (p.data.toList.drop (m + 1)).all Host.hostByte by rw [HQ.out, hd, hmi]; rfl)
                            clear hd hle hde HQ hmi
                            go_wp2_with (first | (go_at_call 35; refine (c1 _).mono ?_; rintro e w' ⟨rfl, rfl⟩) | (go_at_call 36; refine (c2 _).mono ?_; rintro e w' ⟨rfl, rfl⟩))
                            go_round
                            case rel => exact ⟨m + 1, by omega, by go_num, HQ2⟩
                            case measure => simp [intOf]; omega
                          · have e3 : ((p[m].toNat : Int) != 45) = true := by
                              rw [bne_iff_ne]; intro h; exact hmi (UInt8.toNat_inj.1 (by have : (45 : UInt8).toNat = 45 := rfl; omega))
                            have H := Lib.hid (PN.out (host_part xs (by rw [HB2.out, HQ.out, hd, beq_false_of_ne hmi]; rfl)))
                            clear hd hle hde HQ hmi PN PH HB2
                            go_wp2_with (first | (go_at_call 35; refine (c1 _).mono ?_; rintro e w' ⟨rfl, rfl⟩) | (go_at_call 36; refine (c2 _).mono ?_; rintro e w' ⟨rfl, rfl⟩))
                            go_ret2
                            exact out_err H.out (by decide) hbel
                    · have HQ2 := Lib.hid (show xs.all Host.partB = (xs.drop (k + 1)).all Host.partB by
                        rw [HB2.out, HQ.out, List.drop_of_length_le (by rw [HPL.out]; omega), List.all_nil, Bool.true_and])
                      clear HQ HB2
                      go_wp2
                      go_round
                      case rel => exact ⟨k + 1, by omega, by go_num, HQ2⟩
                      case measure => simp [intOf]; omega
        · obtain ⟨b, o, rfl, _, hc⟩ := hst HN
          have ck := hc (n - 1) (by omega)
          have hlx := HL.out
          have hap : xs.all Host.partB = true := by rw [HR.out, List.drop_of_length_le (by omega)]; rfl
          have hm : xs.getD (n - 1) [] ∈ xs := by
            rw [List.getD, List.getElem?_eq_getElem (by omega)]; exact List.getElem_mem _
          have hpm := List.all_eq_true.1 hap _ hm
          have hend := host_end xs (by rw [hlx]; exact h8) hap (by omega)
          rw [hlx] at hend
          have con4 := fun W h => address4_any (some ⟨b, o, none⟩) n c xs W hlx (by omega) h (fun x hx => by have := HSZ.out x hx; omega)
          have HST := Lib.hid (show StIn w2 (some ⟨b, o, none⟩) n xs from fun _ => ⟨b, o, rfl, by assumption, hc⟩)
          generalize xs.getD (n - 1) [] = x at *
          obtain ⟨p, hp, hpv⟩ := str_of x
          rw [hpv] at ck
          subst hp
          have hpl := ba_len p
          have hz' : 0 < p.size := by
            rcases Nat.eq_zero_or_pos p.size with h0 | h0
            · rw [part_parts, List.eq_nil_of_length_eq_zero (l := p.data.toList) (by omega)] at hpm; cases hpm
            · exact h0
          rw [← ba_get p 0 hz'] at hend
          have c2 := Digit_any p[0]
          have hbm := u8_lt p[0]
          obtain rfl : k = n := by omega
          cases hde : decB p[0] with
          | false =>
            rw [hde] at c2 hend
            have H := Lib.hid (PH.out (by rw [hend]; rfl))
            clear hde hend hpm hap hm HR hc hst hpv con4 hpl hlx
            go_wp2_with (first | (go_at_call 36; refine (c2 _).mono ?_; rintro e w' ⟨rfl, rfl⟩) | (go_at_call 15; refine (hlow _ hs).mono ?_; rintro e w3 ⟨z, rfl, HZ, q3, rfl⟩))
            go_ret2
            exact out_ok H.out HZ.out (hbel.trans ((below_drewN _ _).mono hbel.size))
          | true =>
            rw [hde] at c2 hend
            cases had : Host.addrB xs with
            | false =>
              rw [had] at hend con4
              have H := Lib.hid (PN.out (by rw [hend]; rfl))
              clear hde hend hpm hap hm HR hc hst hpv hpl hlx had
              go_wp2_with (first | (go_at_call 36; refine (c2 _).mono ?_; rintro e w' ⟨rfl, rfl⟩) | (go_at_call 37; refine (con4 _ HST.out).mono ?_; rintro e w' ⟨rfl, rfl⟩))
              go_ret2
              exact out_err H.out (by decide) hbel
            | true =>
              rw [had] at hend con4
              have H := Lib.hid (PH.out (by rw [hend]; rfl))
              clear hde hend hpm hap hm HR hc hst hpv hpl hlx had
              go_wp2_with (first | (go_at_call 36; refine (c2 _).mono ?_; rintro e w' ⟨rfl, rfl⟩) | (go_at_call 37; refine (con4 _ HST.out).mono ?_; rintro e w' ⟨rfl, rfl⟩) | (go_at_call 15; refine (hlow _ hs).mono ?_; rintro e w3 ⟨z, rfl, HZ, q3, rfl⟩))
              go_ret2
              exact out_ok H.out HZ.out (hbel.trans ((below_drewN _ _).mono hbel.size))

end Go.Proofs.YtajojgimbagjoaaGreatDoor.Ref

namespace Go.Proofs.YtajojgimbagjoaaGreatDoor.Ref
open Go.RowKit Go.Shelf Url

theorem ext_takeS (s : ByteArray) (k : Nat) : (s.extract 0 k).data.toList = s.data.toList.take k := by
  rw [ByteArray.data_extract, Array.toList_extract]
  simp [List.extract]
theorem ext_dropS (s : ByteArray) (k : Nat) : (s.extract k s.size).data.toList = s.data.toList.drop k := by
  rw [ByteArray.data_extract, Array.toList_extract]
  show (s.data.toList.drop k).take (s.size - k) = _
  rw [List.take_of_length_le (by rw [List.length_drop, ba_len]; exact Nat.le_refl _)]
theorem ext_subS (s : ByteArray) (k m : Nat) : (s.extract k (k + m)).data.toList = (s.data.toList.drop k).take m := by
  rw [ByteArray.data_extract, Array.toList_extract]
  show (s.data.toList.drop k).take (k + m - k) = _
  rw [Nat.add_sub_cancel_left]

theorem at_is (c : UInt8) (l : List UInt8) (k : Nat) (hk : k < l.length) (he : l.getD k 0 = c) (hn : ∀ j, j < k → l.getD j 0 ≠ c) : aheadL c l = l.take k ∧ Host.tailL c l = some (l.drop (k + 1)) := by
  have e : l = l.take k ++ c :: l.drop (k + 1) := by
    have h1 := (List.take_append_drop k l).symm
    have h2 := drop_cons l k hk
    rw [he] at h2
    rw [← h2]; exact h1
  have hno : c ∉ l.take k := fun h => by
    obtain ⟨j, hj, hx⟩ := List.mem_iff_getElem.1 h
    have hj' : j < k := by rw [List.length_take] at hj; omega
    refine hn j hj' ?_
    rw [List.getElem_take] at hx
    rw [List.getD, List.getElem?_eq_getElem (by omega)]
    exact hx
  have h := ahead_yes c _ (l.drop (k + 1)) hno
  rw [← e] at h
  exact h
theorem at_not (c : UInt8) (l : List UInt8) (hn : ∀ j, j < l.length → l.getD j 0 ≠ c) : aheadL c l = l ∧ Host.tailL c l = none :=
  ahead_no c l fun h => by
    obtain ⟨j, hj, hx⟩ := List.mem_iff_getElem.1 h
    refine hn j hj ?_
    rw [List.getD, List.getElem?_eq_getElem hj]
    exact hx

/-- What stands ahead of a byte, behind it, and whether it is there. -/
def AtOut (c : UInt8) (l : List UInt8) (w : World) (e : Ending) (w' : World) : Prop :=
  ∃ x y : ByteArray, e = .returned (.tuple #[.string x, .string y, .bool (Host.tailL c l).isSome]) ∧ Hid (x.data.toList = aheadL c l) ∧ Hid (y.data.toList = (Host.tailL c l).getD []) ∧ ∃ q, w' = w.drewN q

set_option maxHeartbeats 2000000 in
theorem At_any (c : UInt8) (s : ByteArray) (w : World) (hs : s.size ≤ 1099511627775) :
    Calls Tryz.prog 17 #[.string s, .int .u8 (c.toNat : Int)] w fun e w' => AtOut c s.data.toList w e w' := by
  go_enter Tryz.func17, Tryz.ntmps17
  go_wp2
  go_loop [7] (fun i => ∃ k : Nat, k ≤ s.size ∧ i = .int .i64 k ∧ Hid (∀ j, j < k → s.data.toList.getD j 0 ≠ c)) (fun i => s.size - (intOf i).toNat)
  case atStart => exact ⟨0, Nat.zero_le _, rfl, fun j hj => absurd hj (Nat.not_lt_zero j)⟩
  case round =>
    obtain ⟨k, hk, rfl, HR⟩ := hrel
    by_cases hlt : k < s.size
    · have hck := u8_lt s[k]
      have hcc := u8_lt c
      have hgk := ba_get s k hlt
      have hbl := ba_len s
      by_cases he : s[k] = c
      · have e1 : (((s[k].toNat : Nat) : Int) == (c.toNat : Int)) = true := by rw [beq_iff_eq, he]
        have hx := at_is c s.data.toList k (by omega) (hgk ▸ he) HR.out
        have H := Lib.hid hx
        clear hx HR hgk hbl he
        go_wp2_with (go_quiet (fail))
        go_ret3
        refine ⟨s.extract 0 k, s.extract (k + 1) s.size, (by rw [H.out.2]; try rfl), ?_, ?_, _, rfl⟩
        · exact Lib.hid (by rw [H.out.1]; exact ext_takeS s k)
        · exact Lib.hid (by rw [H.out.2]; exact ext_dropS s (k + 1))
      · have e1 : (((s[k].toNat : Nat) : Int) == (c.toNat : Int)) = false := by
          rw [beq_eq_false_iff_ne]; intro h; exact he (UInt8.toNat_inj.1 (by omega))
        have H := Lib.hid (show ∀ j, j < k + 1 → s.data.toList.getD j 0 ≠ c from fun j hj => by
          by_cases h : j = k
          · subst h; rw [← hgk]; exact he
          · exact HR.out j (by omega))
        clear HR hgk hbl he
        go_wp2
        go_round
        case rel => exact ⟨k + 1, by omega, by go_num, H⟩
        case measure => simp [intOf]; omega
    · have hx := at_not c s.data.toList fun j hj => HR.out j (by rw [ba_len] at hj; omega)
      have H := Lib.hid hx
      clear hx HR
      go_wp2
      go_ret3
      exact ⟨s, ⟨#[]⟩, (by rw [H.out.2]; try rfl), Lib.hid H.out.1.symm, Lib.hid (by rw [H.out.2]; rfl), 0, rfl⟩

theorem occ_sub (s x : ByteArray) (k : Nat) : Lib.occAt s.data.toList x.data.toList k = decide ((s.extract k (k + x.size)).data.toList = x.data.toList) := by
  unfold Lib.occAt
  rw [ext_subS, Bool.eq_iff_iff, decide_eq_true_iff, List.isPrefixOf_iff_prefix, List.prefix_iff_eq_take, ba_len]
  exact eq_comm
theorem occ_far (s x : ByteArray) (k : Nat) (hx : 0 < x.size) (h : s.size < k + x.size) : Lib.occAt s.data.toList x.data.toList k = false := by
  unfold Lib.occAt
  cases hp : x.data.toList.isPrefixOf (s.data.toList.drop k) with
  | false => rfl
  | true =>
    have := (List.isPrefixOf_iff_prefix.1 hp).length_le
    rw [List.length_drop, ba_len, ba_len] at this
    omega

set_option maxHeartbeats 2000000 in
/-- Where a text first stands in another one. -/
theorem find_any (s x : ByteArray) (w : World) (hs : s.size ≤ 1099511627775) (hx0 : 0 < x.size) (hx : x.size ≤ 1099511627775) :
    Calls Tryz.prog 14 #[.string s, .string x] w fun e w' => e = .returned (.int .i64 (Lib.index s.data.toList x.data.toList)) ∧ ∃ q, w' = w.drewN q := by
  obtain ⟨m, hm⟩ : ∃ m, x.size = m := ⟨_, rfl⟩
  have HM := Lib.hid hm
  rw [hm] at hx0 hx
  go_enter Tryz.func14, Tryz.ntmps14
  go_wp2
  go_loop [5] (fun i => ∃ k : Nat, k ≤ s.size ∧ i = .int .i64 k ∧ Hid (∀ j, j < k → Lib.occAt s.data.toList x.data.toList j = false)) (fun i => s.size - (intOf i).toNat)
  case atStart => exact ⟨0, Nat.zero_le _, rfl, fun j hj => absurd hj (Nat.not_lt_zero j)⟩
  case round =>
    obtain ⟨k, hk, rfl, HR⟩ := hrel
    by_cases hlt : k + m ≤ s.size
    · have d1 : decide ((k : Int) + (m : Int) ≤ (s.size : Int)) = true := by simp; omega
      have ho := occ_sub s x k
      rw [hm] at ho
      have e1 := str_eq (s.extract k (k + m)) x
      by_cases he : (s.extract k (k + m)).data.toList = x.data.toList
      · rw [decide_eq_true he] at ho e1
        have H := Lib.hid (Lib.index_first (s := s.data.toList) (sub := x.data.toList) (i := k) (by rw [ba_len]; omega) ho HR.out)
        clear HR he ho
        go_wp2_with (go_quiet (fail))
        go_ret
        exact ⟨by rw [H.out]; try rfl, 0, rfl⟩
      · rw [decide_eq_false he] at ho e1
        have H := Lib.hid (show ∀ j, j < k + 1 → Lib.occAt s.data.toList x.data.toList j = false from fun j hj => by
          by_cases h : j = k
          · subst h; exact ho
          · exact HR.out j (by omega))
        clear HR he ho
        go_wp2
        go_round
        case rel => exact ⟨k + 1, by omega, by go_num, H⟩
        case measure => simp [intOf]; omega
    · have d1 : decide ((k : Int) + (m : Int) ≤ (s.size : Int)) = false := by simp; omega
      have H := Lib.hid (show Lib.index s.data.toList x.data.toList = -1 by
        rcases Lib.index_spec s.data.toList x.data.toList with ⟨h, _⟩ | ⟨i, _, h2, h3, _⟩
        · exact h
        · by_cases hi : i < k
          · rw [HR.out i hi] at h3; cases h3
          · rw [occ_far s x i (by rw [hm]; exact hx0) (by rw [hm]; omega)] at h3; cases h3)
      clear HR
      go_wp2
      go_ret
      exact ⟨by rw [H.out]; try rfl, 0, rfl⟩

/-- A string beside a literal's bytes. -/
theorem lit_eq (s : ByteArray) (l : List UInt8) : (s.toList == l) = decide (s.data.toList = l) := by
  rw [Lib.toList_data, Bool.eq_iff_iff, beq_iff_eq, decide_eq_true_iff]

/-- A scheme's own port. -/
theorem Own_any (s : ByteArray) (w : World) :
    Calls Tryz.prog 16 #[.string s] w fun e w' => e = .returned (.int .i64 (ownP s.data.toList)) ∧ w = w' := by
  have e1 : (s.toList == [104, 116, 116, 112]) = decide (s.data.toList = httpS) := lit_eq s _
  have e2 : (s.toList == [104, 116, 116, 112, 115]) = decide (s.data.toList = httpsS) := lit_eq s _
  by_cases h1 : s.data.toList = httpS
  · have H := Lib.hid (show ownP s.data.toList = 80 by unfold ownP; rw [if_pos h1])
    rw [decide_eq_true h1] at e1
    clear h1 e2
    go_enter Tryz.func16, Tryz.ntmps16
    go_wp2
    go_ret
    exact ⟨by rw [H.out]; try rfl, rfl⟩
  · rw [decide_eq_false h1] at e1
    by_cases h2 : s.data.toList = httpsS
    · have H := Lib.hid (show ownP s.data.toList = 443 by unfold ownP; rw [if_neg h1, if_pos h2])
      rw [decide_eq_true h2] at e2
      clear h1 h2
      go_enter Tryz.func16, Tryz.ntmps16
      go_wp2
      go_ret
      exact ⟨by rw [H.out]; try rfl, rfl⟩
    · have H := Lib.hid (show ownP s.data.toList = 0 by unfold ownP; rw [if_neg h1, if_neg h2])
      rw [decide_eq_false h2] at e2
      clear h1 h2
      go_enter Tryz.func16, Tryz.ntmps16
      go_wp2
      go_ret
      exact ⟨by rw [H.out]; try rfl, rfl⟩

end Go.Proofs.YtajojgimbagjoaaGreatDoor.Ref

namespace Go.Proofs.YtajojgimbagjoaaGreatDoor.Pct
open Go.RowKit Go.Shelf

theorem hex_cut (n : Nat) (h : n < 16) : ((ByteArray.mk #[48, 49, 50, 51, 52, 53, 54, 55, 56, 57, 65, 66, 67, 68, 69, 70]).extract n (n + 1)).data.toList = [dg n] := by
  have h' : ∀ i : Fin 16, ((ByteArray.mk #[48, 49, 50, 51, 52, 53, 54, 55, 56, 57, 65, 66, 67, 68, 69, 70]).extract i.1 (i.1 + 1)).data.toList = [dg i.1] := by decide +kernel
  exact h' ⟨n, h⟩

set_option maxHeartbeats 2000000 in
theorem Hex_any (n : Nat) (w : World) (hn : n < 256) :
    Calls Tryz.prog 41 #[.int .u8 (n : Int)] w fun e w' => ∃ x : ByteArray, e = .returned (.string x) ∧ Hid (x.data.toList = [dg (n / 16), dg (n % 16)]) ∧ ∃ q, w' = w.drewN q := by
  go_enter Tryz.func41, Tryz.ntmps41
  go_wp2_with (go_quiet (fail))
  go_ret
  refine ⟨_, rfl, Lib.hid ?_, nq, rfl⟩
  have h1 := hex_cut (n / 16) (by omega)
  have h2 := hex_cut (n % 16) (by omega)

  rw [ByteArray.data_append, Array.toList_append, h1, h2]; rfl

/-- A great letter made small. -/
def low (b : UInt8) : UInt8 := if 65 ≤ b.toNat ∧ b.toNat ≤ 90 then b + 32 else b
def lowL (l : List UInt8) : List UInt8 := l.map low
theorem low_lo (b : UInt8) (h : ¬ (65 ≤ b.toNat ∧ b.toNat ≤ 90)) : low b = b := by
  unfold low
  rw [if_neg h]
theorem lowL_length (l : List UInt8) : (lowL l).length = l.length := by simp [lowL]
theorem ba_app (x s : ByteArray) (k : Nat) (h : k < s.size) : (x ++ s.extract k (k + 1)).data.toList = x.data.toList ++ [s[k]] := by
  have h' : k < s.data.size := h
  have hx : (s.extract k (k + 1)).data.toList = [s[k]] := by
    apply List.ext_getElem?
    intro i
    simp only [ByteArray.data_extract, Array.toList_extract, List.getElem?_take, List.getElem?_drop, List.extract_eq_take_drop]
    by_cases hi : i = 0
    · subst hi
      simp
      rw [Array.getElem?_eq_getElem h']
      rfl
    · rw [if_neg (by omega)]
      simp [hi]
  rw [ByteArray.data_append, Array.toList_append, hx]
theorem abc_low (b : UInt8) (h1 : 65 ≤ b.toNat) (h2 : b.toNat ≤ 90) (x : ByteArray) :
    (x ++ (ByteArray.extract ⟨#[97, 98, 99, 100, 101, 102, 103, 104, 105, 106, 107, 108, 109, 110, 111, 112, 113, 114, 115, 116, 117, 118, 119, 120, 121, 122]⟩ (b.toNat - 65) (b.toNat - 64))).data.toList = x.data.toList ++ [low b] := by
  have h : ∀ i : Fin 26, (ByteArray.extract ⟨#[97, 98, 99, 100, 101, 102, 103, 104, 105, 106, 107, 108, 109, 110, 111, 112, 113, 114, 115, 116, 117, 118, 119, 120, 121, 122]⟩ (i.1 + 65 - 65) (i.1 + 65 - 64)).data.toList = [low (UInt8.ofNat (i.1 + 65))] := by decide +kernel
  have h3 := h ⟨b.toNat - 65, by omega⟩
  simp only [show b.toNat - 65 + 65 = b.toNat from by omega] at h3
  rw [UInt8.ofNat_toNat] at h3
  rw [ByteArray.data_append, Array.toList_append, h3]
theorem lowL_take (l : List UInt8) (k : Nat) (h : k < l.length) : lowL (l.take (k + 1)) = lowL (l.take k) ++ [low (l.getD k 0)] := by
  show (l.take (k + 1)).map low = (l.take k).map low ++ _
  rw [List.take_succ_eq_append_getElem h, List.map_append]
  congr 1
  simp [List.getD, List.getElem?_eq_getElem h]

set_option maxHeartbeats 2000000 in
theorem refLower_any (s : ByteArray) (w : World) (hs : s.size ≤ 1099511627775) :
    Calls Tryz.prog 15 #[.string s] w fun e w' => ∃ x : ByteArray, e = .returned (.string x) ∧ Hid (x.data.toList = lowL s.data.toList) ∧ ∃ q, w' = w.drewN q := by
  go_enter Tryz.func15, Tryz.ntmps15
  go_wp2
  go_loopw [3, 4] (fun o i wr => ∃ k q : Nat, ∃ x : ByteArray, k ≤ s.size ∧ wr = w.drewN q ∧ i = .int .i64 k ∧ o = .string x ∧ Hid (x.data.toList = lowL (s.data.toList.take k))) (fun _ i _ => s.size - (intOf i).toNat)
  case atStart => exact ⟨0, 0, ⟨#[]⟩, Nat.zero_le _, rfl, rfl, rfl, rfl⟩
  case round =>
    obtain ⟨k, q, x, hk, rfl, rfl, rfl, HR⟩ := hrel
    by_cases hlt : k < s.size
    · have hck := u8_lt s[k]
      have hgk := ba_get s k hlt
      have hbl := ba_len s
      have hxs : x.size = k := by rw [← ba_len, HR.out, lowL_length, List.length_take]; omega
      have hst := lowL_take s.data.toList k (by omega)
      rw [← hgk, ← HR.out] at hst
      have HS := Lib.hid hst
      by_cases h1 : 65 ≤ s[k].toNat
      · by_cases h2 : s[k].toNat ≤ 90
        · have HA := Lib.hid (abc_low s[k] h1 h2 x)
          clear hst hgk hbl
          go_wp2_with (go_quiet (fail))
          go_roundw
          case rel => exact ⟨k + 1, q + nq, _, by omega, by simp [World.drewN], by go_num, rfl, Lib.hid (by rw [HS.out]; exact HA.out)⟩
          case measure => simp [intOf]; omega
        · have HA := Lib.hid (low_lo s[k] (by omega))
          have HB := Lib.hid (ba_app x s k hlt)
          have d2 : decide ((s[k].toNat : Int) ≤ 90) = false := by simp; omega
          clear hst hgk hbl
          go_wp2
          go_roundw
          case rel => exact ⟨k + 1, q, _, by omega, rfl, by go_num, rfl, Lib.hid (by rw [HS.out, HA.out]; exact HB.out)⟩
          case measure => simp [intOf]; omega
      · have HA := Lib.hid (low_lo s[k] (by omega))
        have HB := Lib.hid (ba_app x s k hlt)
        have d2 : decide ((65 : Int) ≤ (s[k].toNat : Int)) = false := by simp; omega
        clear hst hgk hbl
        go_wp2
        go_roundw
        case rel => exact ⟨k + 1, q, _, by omega, rfl, by go_num, rfl, Lib.hid (by rw [HS.out, HA.out]; exact HB.out)⟩
        case measure => simp [intOf]; omega
    · have H := Lib.hid (show x.data.toList = lowL s.data.toList by rw [HR.out, List.take_of_length_le (by rw [ba_len]; omega)])
      clear HR
      go_wp2
      go_ret
      exact ⟨_, rfl, H, q, rfl⟩

/-- What two digits count; -1: they are none. -/
def valI (x y : UInt8) : Int := if hexB x && hexB y then ((pairV x y).toNat : Int) else -1
theorem low_dg (x : UInt8) : ∀ v : Fin 16, (low (dg v.1) = low x) ↔ (hexB x = true ∧ (worth x).toNat = v.1) := by
  have h : ∀ i : Fin 256, ∀ v : Fin 16, (low (dg v.1) = low (UInt8.ofNat i.1)) ↔ (hexB (UInt8.ofNat i.1) = true ∧ (worth (UInt8.ofNat i.1)).toNat = v.1) := by decide +kernel
  have h1 := h ⟨x.toNat, u8_lt x⟩
  rwa [UInt8.ofNat_toNat] at h1
theorem pair_nat : ∀ u v : Fin 16, (((UInt8.ofNat u.1) <<< 4) ||| (UInt8.ofNat v.1)).toNat = 16 * u.1 + v.1 := by decide +kernel
theorem worth_lt (x : UInt8) (h : hexB x = true) : (worth x).toNat < 16 := by
  have h' : ∀ i : Fin 256, hexB (UInt8.ofNat i.1) = true → (worth (UInt8.ofNat i.1)).toNat < 16 := by decide +kernel
  have h1 := h' ⟨x.toNat, u8_lt x⟩
  rw [UInt8.ofNat_toNat] at h1
  exact h1 h
theorem pairV_nat (x y : UInt8) (hx : hexB x = true) (hy : hexB y = true) : (pairV x y).toNat = 16 * (worth x).toNat + (worth y).toNat := by
  have h := pair_nat ⟨(worth x).toNat, worth_lt x hx⟩ ⟨(worth y).toNat, worth_lt y hy⟩
  simp only [UInt8.ofNat_toNat] at h
  exact h
/-- Whether a number's two digits are these, great or small. -/
def hasDs (n : Nat) (x y : UInt8) : Bool := lowL [dg (n / 16), dg (n % 16)] == lowL [x, y]
theorem hasDs_iff (n : Nat) (hn : n < 256) (x y : UInt8) : hasDs n x y = true ↔ (hexB x = true ∧ hexB y = true ∧ (pairV x y).toNat = n) := by
  unfold hasDs lowL
  simp only [List.map_cons, List.map_nil, beq_iff_eq, List.cons.injEq, and_true]
  rw [low_dg x ⟨n / 16, by omega⟩, low_dg y ⟨n % 16, by omega⟩]
  constructor
  · rintro ⟨⟨h1, h2⟩, h3, h4⟩
    refine ⟨h1, h3, ?_⟩
    rw [pairV_nat x y h1 h3, h2, h4]
    simp only; omega
  · rintro ⟨h1, h2, h3⟩
    rw [pairV_nat x y h1 h2] at h3
    have := worth_lt x h1
    have := worth_lt y h2
    refine ⟨⟨h1, ?_⟩, h2, ?_⟩
    · simp only; omega
    · simp only; omega
theorem valI_at (n : Nat) (hn : n < 256) (x y : UInt8) (h : hasDs n x y = true) : valI x y = (n : Int) := by
  obtain ⟨h1, h2, h3⟩ := (hasDs_iff n hn x y).1 h
  unfold valI
  rw [h1, h2, h3]; rfl
theorem valI_no (x y : UInt8) (h : ∀ n, n < 256 → hasDs n x y = false) : valI x y = -1 := by
  unfold valI
  rw [if_neg]
  intro hh
  rw [Bool.and_eq_true] at hh
  have h1 := h (pairV x y).toNat (u8_lt _)
  rw [(hasDs_iff _ (u8_lt _) x y).2 ⟨hh.1, hh.2, rfl⟩] at h1
  cases h1

theorem ba_ext (x y : ByteArray) (h : x.data.toList = y.data.toList) : x = y := by
  apply ByteArray.ext; apply Array.ext'; exact h

set_option maxRecDepth 100000 in
set_option maxHeartbeats 2000000 in
theorem value_any (s : ByteArray) (x y : UInt8) (w : World) (hs : s.data.toList = [x, y]) :
    Calls Tryz.prog 60 #[.string s] w fun e w' => e = .returned (.int .i64 (valI x y)) ∧ ∃ q, w' = w.drewN q := by
  have hs2 : s.size = 2 := by rw [← ba_len, hs]; rfl
  have con := fun W => refLower_any s W (by omega)
  have HS := Lib.hid hs
  clear hs hs2
  go_enter Tryz.func60, Tryz.ntmps60
  go_wp2
  go_loopw [3] (fun i wr => ∃ k q : Nat, k ≤ 256 ∧ i = .int .i64 k ∧ wr = w.drewN q ∧ Hid (∀ j, j < k → hasDs j x y = false)) (fun i _ => 256 - (intOf i).toNat)
  case atStart => exact ⟨0, 0, by omega, rfl, rfl, fun j h => absurd h (Nat.not_lt_zero _)⟩
  case round =>
    obtain ⟨k, q, hk, rfl, rfl, HR⟩ := hrel
    by_cases hlt : k < 256
    · have con1 := fun W => Hex_any k W hlt
      go_wp2_with fail
      refine (con1 _).mono ?_
      rintro e w1 ⟨z, rfl, HZ, q1, rfl⟩
      have con2 := fun W => refLower_any z W (by rw [← ba_len, HZ.out]; show (2 : Nat) ≤ 1099511627775; omega)
      go_wp2_with fail
      refine (con2 _).mono ?_
      rintro e w2 ⟨z2, rfl, HZ2, q2, rfl⟩
      go_wp2_with fail
      refine (con _).mono ?_
      rintro e w3 ⟨z3, rfl, HZ3, q3, rfl⟩
      clear con1 con2
      by_cases he : z2 = z3
      · subst he
        have H := Lib.hid (valI_at k hlt x y (by unfold hasDs; rw [beq_iff_eq, ← HZ.out, ← HS.out, ← HZ2.out, ← HZ3.out]))
        have e1 : (z2.toList == z2.toList) = true := by rw [beq_iff_eq]
        clear con
        go_wp2
        go_ret
        exact ⟨(by rw [H.out]; try rfl), q + q1 + q2 + q3, by simp [World.drewN, Nat.add_assoc]⟩
      · have H := Lib.hid (show hasDs k x y = false by
          unfold hasDs
          rw [beq_eq_false_iff_ne]
          intro h
          apply he
          apply ba_ext
          rw [HZ2.out, HZ3.out, HZ.out, HS.out, h])
        have e1 : (z2.toList == z3.toList) = false := by
          rw [beq_eq_false_iff_ne, Lib.toList_data, Lib.toList_data]
          exact fun h => he (ba_ext _ _ h)
        clear con he
        go_wp2
        go_roundw
        case rel => exact ⟨k + 1, q + q1 + q2 + q3, by omega, by go_num, by simp [World.drewN, Nat.add_assoc], Lib.hid (fun j hj => by
          by_cases hjk : j = k
          · rw [hjk]; exact H.out
          · exact HR.out j (by omega))⟩
        case measure => simp [intOf]; omega
    · have H := Lib.hid (valI_no x y (fun n hn => HR.out n (by omega)))
      clear con HR
      go_wp2
      go_ret
      exact ⟨(by rw [H.out]; try rfl), q, rfl⟩

end Go.Proofs.YtajojgimbagjoaaGreatDoor.Pct

namespace Go.Proofs.YtajojgimbagjoaaGreatDoor
open Go.RowKit Go.Shelf
attribute [local go_sem] Oper.semAt_some

/-- A text as a value. -/
def strV (x : List UInt8) : Value := .string ⟨x.toArray⟩
theorem strOfNums_numsL (x : List UInt8) : strOfNums (Lib.numsL x) = ⟨x.toArray⟩ := by
  unfold strOfNums
  rw [show (Lib.numsL x).map (fun n => UInt8.ofNat n.toNat) = x from Lib.bytesOf_numsL x]
theorem info_str : (Tryz.prog.info? 9).map (fun i => (i.zero, i.size, i.bytes)) = some (some (.string ByteArray.empty), 1, 16) := by kernel_rfl

/-- Between two rounds: what has come lies in out. -/
def AllI (n₀ Bo : Nat) (w : World) (pre : List (List UInt8)) (Pv : Nat → Prop) (W : World) : Prop :=
  ∃ v, Boxed W Bo 68 v ∧ W.ownsRow n₀ 9 1 v pre.length (pre.map strV) ∧ (∀ b, Pv b → n₀ ≤ b) ∧ ¬ Pv Bo ∧ (∀ b, v.ownBlock = some b → ¬ Pv b) ∧ Below n₀ w W

theorem AllI_abide (n₀ Bo : Nat) (w : World) (hn : n₀ ≤ w.heap.size) : Abide (AllI n₀ Bo w) := by
  rintro pre Pv Pv' A B ⟨v, h1, h2, h3, h4, h5, h6⟩ hk hp
  have hs := h6.size
  refine ⟨v, hk.boxed h1 h4, hk.row h2 h5, fun b hb => ?_, fun hb => ?_, fun b hb hp' => ?_, h6.trans ⟨hk.os, hk.tape, hk.output, hk.size, fun k hk' => hk.block k (by omega) (fun hpk => by have := h3 k hpk; omega)⟩⟩
  · rcases (hp b hb).1 with h | h
    · exact h3 b h
    · omega
  · rcases (hp _ hb).1 with h | h
    · exact h4 h
    · have := h1.lt; omega
  · rcases (hp _ hp').1 with h | h
    · exact h5 b hb h
    · have := (h2.lt b hb).2; omega

end Go.Proofs.YtajojgimbagjoaaGreatDoor

namespace Go.Proofs.YtajojgimbagjoaaGreatDoor
open Go.RowKit Go.Shelf
attribute [local go_sem] Oper.semAt_some

/-- A number and a piece that is handed over with its memory. -/
def NumRowArg (x : Nat × List UInt8) (args : Array Value) (G : Nat → Prop) (W : World) : Prop :=
  ∃ v, args = #[.int .i64 x.1, v] ∧ W.ownsRow 0 5 1 v x.2.length ((Lib.numsL x.2).map (Value.int .u8)) ∧ G = fun b => v.ownBlock = some b

/-- The pieces of a text, counted, out of their bounds. -/
def splitOf (l : List UInt8) (xs : List (Nat × Nat)) : List (Nat × List UInt8) := xs.zipIdx.map fun x => (x.2, sub l x.1.1 x.1.2)
def splitX (c : UInt8) (l : List UInt8) : List (Nat × List UInt8) := splitOf l (spansL (isB c) l)
theorem splitOf_snoc (l : List UInt8) (pre : List (Nat × Nat)) (x : Nat × Nat) : splitOf l (pre ++ [x]) = splitOf l pre ++ [(pre.length, sub l x.1 x.2)] := by
  unfold splitOf
  simp [List.zipIdx_append]
theorem splitOf_mid (c : UInt8) (l : List UInt8) (pre : List (Nat × Nat)) (x : Nat × Nat) (rest : List (Nat × Nat)) (hx : spansL (isB c) l = pre ++ x :: rest) : ∃ r, splitX c l = splitOf l pre ++ (pre.length, sub l x.1 x.2) :: r := by
  unfold splitX splitOf
  rw [hx]
  simp [List.zipIdx_append]
theorem spansGo_len (p : UInt8 → Bool) : ∀ (l : List UInt8) (i f : Nat), (spansGo p l i f).length ≤ l.length + 1
  | [], i, f => by simp [spansGo]
  | b :: r, i, f => by
    unfold spansGo
    split
    · have := spansGo_len p r (i + 1) (i + 1); simp; omega
    · have := spansGo_len p r (i + 1) f; simp; omega

theorem Split_any (q : Option Addr) (n c : Nat) (by_ : UInt8) (l : List UInt8) (w : World) (hl : l.length = n) (hn : n ≤ 140737488355328) (h : Lib.BytesIn w q n (Lib.numsL l)) :
    Calls Tryz.prog 52 #[.slice q n c, .int .u8 (by_.toNat : Int)] w fun e w' => ∃ B v', e = .returned (.func (.func 74) #[] #[.pointer (some ⟨B, 0, none⟩), .pointer (some ⟨w.heap.size, 0, none⟩)]) ∧
      Boxed w' B 22 v' ∧ Boxed w' w.heap.size 5 (.int .u8 (by_.toNat : Int)) ∧ w'.ownsRow (w.heap.size + 1) 5 1 v' n ((Lib.numsL l).map (Value.int .u8)) ∧ w.heap.size + 1 ≤ B ∧ Below w.heap.size w w' := by
  have hb2 := bytes_keep h (Keep.alloc (fun _ => True) w (.cells #[.int .u8 (by_.toNat : Int)] 5)) (fun _ _ _ => trivial)
  have hcon := Clone_any q n c l _ hl hn hb2
  have b1 := Boxed.new w 5 (.int .u8 (by_.toNat : Int))
  have hB1 := (Below.refl w.heap.size w).alloc (Nat.le_refl _) (.cells #[.int .u8 (by_.toNat : Int)] 5)
  rw [World.size_alloc] at hcon
  clear h hb2
  go_enter Tryz.func52, Tryz.ntmps52
  go_wp2_with fail
  refine hcon.mono ?_
  rintro e w1 ⟨v', rfl, hrow, hbel⟩
  obtain ⟨q', c', rfl, _, _, _, _, hblk⟩ := row_open hrow
  have b2 := (Keep.of_below hbel).boxed b1 (Nat.lt_succ_self _)
  have hB2 := hB1.trans (hbel.mono (Nat.le_succ _))
  have hsz := hbel.size
  clear b1 hB1
  go_wp2
  go_ret
  exact ⟨w1.heap.size, _, rfl, Boxed.new w1 _ _, b2.alloc _, hrow.alloc _, by simpa using hsz, hB2.alloc hB2.size _⟩

set_option maxRecDepth 100000 in
set_option maxHeartbeats 2000000 in
theorem Split1_iter (B Bc : Nat) (by_ : UInt8) (q : Option Addr) (n c : Nat) (l : List UInt8) (RB : Nat → Prop) (w0 : World)
    (hl : l.length = n) (hn : n ≤ 140737488355328) (hnc : n ≤ c) (hb : Lib.BytesIn w0 q n (Lib.numsL l)) (hq : ∀ a, q = some a → 0 < n → RB a.block)
    (hB : Boxed w0 B 22 (.slice q n c)) (hRB : RB B) (hBc : Boxed w0 Bc 5 (.int .u8 (by_.toNat : Int))) (hRBc : RB Bc) (hRs : ∀ b, RB b → b < w0.heap.size) :
    IterC Tryz.prog 74 #[.pointer (some ⟨B, 0, none⟩), .pointer (some ⟨Bc, 0, none⟩)] NumRowArg (splitX by_ l) RB w0 := by
  intro l' J Jx W hW hJ hJx hY h0
  refine (callsIn_wide (n := 1)).1 ?_
  refine callsIn_of_wp_marks Tryz.func74 rfl trivial ?_ rfl
  simp only [Tryz.ntmps74, List.size_toArray, List.length_cons, List.length_nil, Nat.reduceAdd, Nat.reduceSub, Array.replicate_succ, Array.replicate_zero, List.push_toArray, List.append_toArray, List.nil_append, List.cons_append]
  have aB0 := hW.boxed hB hRB
  have aBc0 := hW.boxed hBc hRBc
  have bB := aB0.cell
  have bBc := aBc0.cell
  gi_wp2
  have ccB : ∀ o o', ((W.alloc o).alloc o').cell? ⟨B, 0, none⟩ = some (.slice q n c) := fun o o' => ((aB0.alloc o).alloc o').cell
  have ccC : ∀ o o', ((W.alloc o).alloc o').cell? ⟨Bc, 0, none⟩ = some (.int .u8 (by_.toNat : Int)) := fun o o' => ((aBc0.alloc o).alloc o').cell
  have ccB3 : ∀ o o' o'', (((W.alloc o).alloc o').alloc o'').cell? ⟨B, 0, none⟩ = some (.slice q n c) := fun o o' o'' => (((aB0.alloc o).alloc o').alloc o'').cell
  have ccC3 : ∀ o o' o'', (((W.alloc o).alloc o').alloc o'').cell? ⟨Bc, 0, none⟩ = some (.int .u8 (by_.toNat : Int)) := fun o o' o'' => (((aBc0.alloc o).alloc o').alloc o'').cell
  have ccB5 : ∀ o o' o'' p p', (((((W.alloc o).alloc o').alloc o'').alloc p).alloc p').cell? ⟨B, 0, none⟩ = some (.slice q n c) := fun o o' o'' p p' => (((((aB0.alloc o).alloc o').alloc o'').alloc p).alloc p').cell
  have ccC5 : ∀ o o' o'' p p', (((((W.alloc o).alloc o').alloc o'').alloc p).alloc p').cell? ⟨Bc, 0, none⟩ = some (.int .u8 (by_.toNat : Int)) := fun o o' o'' p p' => (((((aBc0.alloc o).alloc o').alloc o'').alloc p).alloc p').cell
  refine region_any (fun w => w.cell? ⟨B, 0, none⟩ = some (.slice q n c) ∧ w.cell? ⟨Bc, 0, none⟩ = some (.int .u8 (by_.toNat : Int))) (by kernel_rfl) ?_
  refine anyH_take 0 (v := .slice q n c) rfl (by kernel_rfl) (by kernel_rfl) (by kernel_rfl) (by kernel_rfl) (fun _ _ _ h => h) ⟨.inl ⟨by rfl, ?_⟩, fun _ => rfl⟩ ⟨ccB _ _, ccC _ _⟩ ?_
  · rintro w ⟨h1, h2⟩; go_simp
  refine anyH_take 1 (v := .int .u8 (by_.toNat : Int)) rfl (by kernel_rfl) (by kernel_rfl) (by kernel_rfl) (by kernel_rfl) (fun _ _ _ h => h) ⟨.inl ⟨by rfl, ?_⟩, fun _ => rfl⟩ ⟨ccB _ _, ccC _ _⟩ ?_
  · rintro w ⟨h1, h2⟩; go_simp
  refine anyH_one 2 (by kernel_rfl) rfl fun K hK => ?_
  go_simp
  refine ⟨trivial, (callsIn_wide.2 (isByte_any by_ _)).mono ?_⟩
  rintro e w' ⟨rfl, rfl⟩
  refine hK _ _ ⟨ccB3 _ _ _, ccC3 _ _ _⟩ ?_
  clear hK K
  refine anyH_one 3 (by kernel_rfl) rfl fun K hK => ?_
  go_simp
  refine ⟨trivial, (callsIn_wide.2 (spans_any _ _ _ _ _ _)).mono ?_⟩
  rintro e w' ⟨rfl, rfl⟩
  refine hK _ _ ⟨ccB5 _ _ _ _ _, ccC5 _ _ _ _ _⟩ ?_
  clear hK K
  refine anyH_done (by kernel_rfl) ?_ _
  clear ccB ccC ccB3 ccC3 ccB5 ccC5
  simp only [drew_alloc, drew_size, World.size_alloc]
  gi_wp2
  obtain ⟨W1, hW1, a0, ai, a2, a3, a4, hsz, hk1⟩ := five_boxes W 102 3 5 22 70 (.func (.yield l') #[] #[]) (.int .i64 0) (.int .u8 (by_.toNat : Int)) (.slice q n c) (.func (.func 93) #[] #[.pointer (some ⟨W.heap.size + 1 + 1, 0, none⟩)])
  rw [hW1]
  clear hW1
  obtain ⟨RBin, hRBin⟩ : ∃ RBin : Nat → Prop, RBin = fun b => RB b ∨ b = W.heap.size ∨ b = W.heap.size + 1 + 1 ∨ b = W.heap.size + 1 + 1 + 1 ∨ b = W.heap.size + 1 + 1 + 1 + 1 := ⟨_, rfl⟩
  obtain ⟨Ow, hOw⟩ : ∃ Ow : Nat → Prop, Ow = fun b => W.heap.size ≤ b ∧ b < W1.heap.size := ⟨_, rfl⟩
  have hW0 := hW.size
  have hRl : ∀ b, RBin b → b < W1.heap.size := fun b hb => by rw [hRBin] at hb; rcases hb with hb | hb; (have := hRs b hb; omega); omega
  have hRi : ¬ RBin (W.heap.size + 1) := fun hb => by rw [hRBin] at hb; rcases hb with hb | hb; (have := hRs _ hb; omega); omega
  have hRBo : ∀ b, RB b → RBin b := fun b hb => by rw [hRBin]; exact .inl hb
  have hOwR : ∀ b, RBin b → RB b ∨ Ow b := fun b hb => by
    have h1 := hRl b hb
    rw [hRBin] at hb; rw [hOw]
    rcases hb with hb | hb
    · exact .inl hb
    · exact .inr ⟨by omega, h1⟩
  have r0 : RBin W.heap.size := by rw [hRBin]; exact .inr (.inl rfl)
  have r2 : RBin (W.heap.size + 1 + 1) := by rw [hRBin]; exact .inr (.inr (.inl rfl))
  have r3 : RBin (W.heap.size + 1 + 1 + 1) := by rw [hRBin]; exact .inr (.inr (.inr (.inl rfl)))
  have r4 : RBin (W.heap.size + 1 + 1 + 1 + 1) := by rw [hRBin]; exact .inr (.inr (.inr (.inr rfl)))
  have hOwl : ∀ b, Ow b → W.heap.size ≤ b ∧ b < W1.heap.size := fun b hb => by rw [hOw] at hb; exact hb
  have o0 : Ow W.heap.size := by rw [hOw]; exact ⟨Nat.le_refl _, by omega⟩
  have oi : Ow (W.heap.size + 1) := by rw [hOw]; exact ⟨by omega, by omega⟩
  clear hRBin hOw
  have hil : W.heap.size + 1 < W1.heap.size := by omega
  have hb1 : Lib.BytesIn W1 q n (Lib.numsL l) := bytes_keep hb (hW.trans (hk1 RB)) hq
  have aB := (hk1 RB).boxed aB0 hRB
  refine rf_law (gf := 92) (lb := #[.pointer (some ⟨W.heap.size + 1 + 1 + 1, 0, none⟩), .pointer (some ⟨W.heap.size + 1 + 1 + 1 + 1, 0, none⟩)]) rfl (enters_of Tryz.func92 (by kernel_rfl) rfl)
    (spans1_iter (W.heap.size + 1 + 1 + 1) (W.heap.size + 1 + 1 + 1 + 1) q n c 93 #[.pointer (some ⟨W.heap.size + 1 + 1, 0, none⟩)] l (isB by_) RBin W1 hl hn hb1 (fun a h1 h2 => hRBo _ (hq a h1 h2)) a3 a4 r3 r4
      (isByte_tests by_ (W.heap.size + 1 + 1) RBin W1 a2 r2)) (Keep.refl _ _) hRl (fun x args G W h => by rw [h.1]; rfl)
    (AdI RBin Ow W1 J (splitOf l) (fun pre Wr => Boxed Wr (W.heap.size + 1) 3 (.int .i64 pre.length))) (AdX J Jx (splitX by_ l)) (AdI_abide hJ hRl (fun _ _ _ hk h => hk.boxed h hil)) (AdX_abide hJ hJx)
    ⟨Keep.refl _ _, (fun _ h => h.elim), ai, Ow, hJ _ _ _ _ _ h0 (hk1 _) (fun b hb => ⟨.inr (hOwl b hb).1, (hOwl b hb).2⟩), (fun _ h => h.elim), (fun _ h => h), (fun b hb => (hOwl b hb).2)⟩ ?round ?done ?stop
  case round =>
    rintro ll pre ⟨f, t⟩ rest Pv G args Wr hll hxs ⟨hKI, hge, hEi, Q, hj, hPQ, hOQ, hQl⟩ hPl hGl hPb hGP ⟨rfl, rfl⟩
    gi_wp2
    refine ⟨Keep.refl _ _, fun W2 hk2 hs2 r hr => ?_⟩
    have hbd := spansL_bounds (isB by_) l (f, t) (by rw [hxs]; simp)
    have hpl : pre.length ≤ n := by
      have h1 := spansGo_len (isB by_) l 0 0
      have h2 : (spansL (isB by_) l).length = pre.length + (rest.length + 1) := by rw [hxs]; simp
      unfold spansL at h2
      omega
    simp only at hbd
    have hlW : W1.heap.size ≤ ll := hge ll hPl
    have hPi : ¬ Pv (W.heap.size + 1) := fun h => by have := hge _ h; omega
    have j2 : J (splitOf l pre) Q W2 := hJ _ _ _ _ _ hj (hk2.mono fun b _ hb => by rintro rfl; exact hb (hPQ _ hPl)) fun b hb => ⟨.inl hb, by have := hQl b hb; omega⟩
    have k2 : Keep RBin W1 W2 := hKI.trans (hk2.mono fun b _ hb => by have := hRl b hb; omega)
    have hQ2 : ∀ b, Q b → b < W2.heap.size := fun b hb => by have := hQl b hb; omega
    have b0 := k2.boxed a0 r0
    have bi := hk2.boxed hEi (by omega)
    have bB := k2.boxed aB (hRBo _ hRB)
    have c0 := b0.cell
    have ci := bi.cell
    have cB := bB.cell
    have hsl := run_slice_sub q n c f t
    obtain ⟨r, hys⟩ := splitOf_mid by_ l pre (f, t) rest hxs
    have hbs : Lib.BytesIn W2 (subA q c f) (t - f) (Lib.numsL (sub l f t)) := bytes_sub (bytes_keep hb1 k2 (fun a h1 h2 => hRBo _ (hq a h1 h2))) hl hbd.1 (by omega) hnc
    have hm := sub_length l f t hbd.2
    have con2 := Clone_any (subA q c f) (t - f) (c - f) (sub l f t) W2.drew hm (by omega) hbs
    have hft : f ≤ t := hbd.1
    have htc : t ≤ c := by omega
    have HSL := fun W => hsl W hft htc
    have after : ∀ w4 v4, w4.ownsRow W2.heap.size 5 1 v4 (t - f) ((Lib.numsL (sub l f t)).map (Value.int .u8)) → Below W2.heap.size W2 w4 →
        w4.cell? ⟨W.heap.size, 0, none⟩ = some (.func (.yield l') #[] #[]) ∧ w4.cell? ⟨W.heap.size + 1, 0, none⟩ = some (.int .i64 pre.length) ∧ w4.cell? ⟨B, 0, none⟩ = some (.slice q n c) ∧
        YieldAt Fence.wide 0 Tryz.prog l' #[.int .i64 pre.length, v4] w4 fun e W' => ∃ ok : Bool, e = .returned (.bool ok) ∧ RowPost J Jx (splitOf l pre ++ [(pre.length, sub l f t)]) RB Q W2 ok W' := by
      intro w4 v4 h1 hbw
      refine ⟨((Keep.of_below hbw).boxed b0 b0.lt).cell, ((Keep.of_below hbw).boxed bi bi.lt).cell, ((Keep.of_below hbw).boxed bB bB.lt).cell, ?_⟩
      exact yield_arg (v4 := v4) hJ hY hys j2 hQ2 hbw (fun b h => h1.lt b h) ⟨v4, rfl, by rw [show (sub l f t).length = t - f from hm]; exact row_base h1 (Nat.zero_le _), rfl⟩
    have HX2 := Lib.hid (splitOf_snoc l pre (f, t))
    have HY := Lib.hid hys
    clear hbs hbd hb1 hxs hys hsl hY hb hq hs2
    gi_wp2_with fail
    refine region_any (fun w => w.cell? ⟨W.heap.size, 0, none⟩ = some (.func (.yield l') #[] #[]) ∧ w.cell? ⟨W.heap.size + 1, 0, none⟩ = some (.int .i64 pre.length) ∧ w.cell? ⟨B, 0, none⟩ = some (.slice q n c)) (by kernel_rfl) ?_
    refine anyH_take 0 (v := .func (.yield l') #[] #[]) rfl (by kernel_rfl) (by kernel_rfl) (by kernel_rfl) (by kernel_rfl) (fun _ _ _ h => h) ⟨.inl ⟨by rfl, ?_⟩, fun _ => rfl⟩ ⟨c0, ci, cB⟩ ?_
    · rintro w ⟨h1, h2, h3⟩; go_simp
    refine anyH_take 1 (v := .int .i64 pre.length) rfl (by kernel_rfl) (by kernel_rfl) (by kernel_rfl) (by kernel_rfl) (fun _ _ _ h => h) ⟨.inl ⟨by rfl, ?_⟩, fun _ => rfl⟩ ⟨c0, ci, cB⟩ ?_
    · rintro w ⟨h1, h2, h3⟩; go_simp
    refine anyH_take 2 (v := .slice q n c) rfl (by kernel_rfl) (by kernel_rfl) (by kernel_rfl) (by kernel_rfl) (fun _ _ _ h => h) ⟨.inl ⟨by rfl, ?_⟩, fun _ => rfl⟩ ⟨c0, ci, cB⟩ ?_
    · rintro w ⟨h1, h2, h3⟩; go_simp
    refine anyH_take 3 (v := .int .i64 f) rfl (by kernel_rfl) (by kernel_rfl) (by kernel_rfl) (by kernel_rfl) (fun _ _ _ h => h) ⟨.inl ⟨by rfl, ?_⟩, fun _ => rfl⟩ ⟨c0, ci, cB⟩ ?_
    · rintro w ⟨h1, h2, h3⟩; go_simp
    refine anyH_take 4 (v := .int .i64 t) rfl (by kernel_rfl) (by kernel_rfl) (by kernel_rfl) (by kernel_rfl) (fun _ _ _ h => h) ⟨.inl ⟨by rfl, ?_⟩, fun _ => rfl⟩ ⟨c0, ci, cB⟩ ?_
    · rintro w ⟨h1, h2, h3⟩; go_simp
    refine anyH_take 5 (v := .slice (subA q c f) (t - f) (c - f)) rfl (by kernel_rfl) (by kernel_rfl) (by kernel_rfl) (by kernel_rfl) (fun _ _ _ h => h) ⟨.inl ⟨by rfl, ?_⟩, fun _ => rfl⟩ ⟨c0, ci, cB⟩ ?_
    · rintro w ⟨h1, h2, h3⟩; go_simp
    refine anyH_one 6 (by kernel_rfl) rfl fun K hK => ?_
    go_simp
    refine ⟨trivial, rfl, (CallsIn.inRound ll (callsIn_wide.2 con2)).mono ?_⟩
    rintro e w4 ⟨v4, rfl, hrow4, hbel4⟩
    obtain ⟨d0, di, dB, fn, tmps, assign, body, hy, hR⟩ := after w4 v4 hrow4 ⟨hbel4.os, hbel4.tape, hbel4.output, hbel4.size, hbel4.block⟩
    refine hK _ _ ⟨d0, di, dB⟩ ?_
    clear hK K
    refine anyH_one 7 (by kernel_rfl) rfl fun K hK => ?_
    go_simp
    refine ⟨rfl, RoundIn.mono hR ?_⟩
    rintro e W5 ⟨ok, rfl, hpost⟩
    have ei := hpost.1.boxed bi (.inr (hOQ _ oi))
    have eS := And.intro (hpost.1.boxed b0 (.inr (hOQ _ o0))).cell (And.intro ei.cell (hpost.1.boxed bB (.inl hRB)).cell)
    refine hK _ _ eS ?_
    clear hK K
    refine anyH_take 8 (v := .bool (!ok)) rfl (by kernel_rfl) (by kernel_rfl) (by kernel_rfl) (by kernel_rfl) (fun _ _ _ h => h) ⟨.inl ⟨by rfl, ?_⟩, fun _ => rfl⟩ eS ?_
    · rintro w ⟨h1, h2, h3⟩; go_simp
    refine anyH_done (by kernel_rfl) ?_ _
    obtain ⟨hkp, Q', hQQ, hQl', hpost⟩ := hpost
    have hkk : Keep (fun b => RBin b ∨ Pv b) W2 W5 := hkp.mono fun b _ h => h.elim (fun h => (hOwR b h).imp id (hOQ b)) (fun h => .inr (hPQ b h))
    have fi := ei.frozen
    have ci5 := ei.cell
    clear hkp after con2 HSL hy hR hrow4 hbel4 d0 di dB eS c0 ci cB
    cases ok with
    | true =>
      have hj5 := (hpost.resolve_right (by simp)).2
      clear hpost
      gi_wp2
      have kst : ∀ S : Nat → Prop, ¬ S (W.heap.size + 1) → Keep S W5 (W5.setCell ⟨W.heap.size + 1, 0, none⟩ (.int .i64 (pre.length + 1))) := fun S h => Keep.setCell _ _ _ h
      refine ⟨hkk.trans (kst _ (fun h => h.elim hRi hPi)), k2.trans ((hkk.mono fun b _ h => .inl h).trans (kst _ hRi)), fun b hb => hge b hb, ?_, Q', ?_, fun b hb => hQQ b (hPQ b hb), fun b hb => hQQ b (hOQ b hb), fun b hb => ?_⟩
      · have := ei.set (.int .i64 ((pre.length : Int) + 1))
        simpa using this
      · rw [HX2.out]
        exact hJ _ _ _ _ _ hj5 (kst _ (fun h => h (hQQ _ (hOQ _ oi)))) (fun b hb => ⟨.inl hb, Nat.lt_of_lt_of_le (hQl' b hb) (kst (fun _ => False) (fun h => h)).size⟩)
      · exact Nat.lt_of_lt_of_le (hQl' b hb) (kst (fun _ => False) (fun h => h)).size
    | false =>
      have hj5 := (hpost.resolve_left (by simp)).2
      clear hpost
      gi_wp2
      exact ⟨hkk, rfl, Q', fun b hb => hQQ b (hPQ b hb), hQl', .inr ⟨_, r, by rw [HY.out, List.append_assoc]; rfl, hj5⟩⟩
  case done =>
    rintro D Pv Wd hD hPD hPl ⟨_, hge, _, Q, hj, hPQ, hOQ, hQl⟩ hK
    gi_wp2
    refine ⟨by simp, .inl ⟨_, _, rfl, run_takeDeferred hK, ?_⟩⟩
    refine ⟨_, results_none rfl _ _ _, ⟨_, rfl⟩, Q, ?_, .inl ?_⟩
    · intro b hb; rw [World.putObj_size]; exact hQl b hb
    · exact hJ _ _ _ _ _ hj (Keep.putObj _ _ _ (fun h => h (hPQ D hPD))) (fun b hb => ⟨.inl hb, by rw [World.putObj_size]; exact hQl b hb⟩)
  case stop =>
    rintro D cc pre rest Pv Wd hD hPD hPl hxs ⟨rfl, Q, hPQ, hQl, hj⟩ hK
    gi_wp2
    refine ⟨by simp, .inl ⟨_, _, rfl, run_takeDeferred hK, ?_⟩⟩
    refine ⟨_, results_none rfl _ _ _, ⟨_, rfl⟩, Q, ?_, ?_⟩
    · intro b hb; rw [World.putObj_size]; exact hQl b hb
    · have hkp : Keep (fun b => ¬ Q b) Wd (Wd.putObj D (.deferred none)) := Keep.putObj _ _ _ (fun h => h (hPQ D hPD))
      have hqp : ∀ b, Q b → (Q b ∨ Wd.heap.size ≤ b) ∧ b < (Wd.putObj D (.deferred none)).heap.size := fun b hb => ⟨.inl hb, by rw [World.putObj_size]; exact hQl b hb⟩
      rcases hj with hj | ⟨pre', rest', he, hj⟩
      · exact .inl (hJ _ _ _ _ _ hj hkp hqp)
      · exact .inr ⟨pre', rest', he, hJx _ _ _ _ _ hj hkp hqp⟩

end Go.Proofs.YtajojgimbagjoaaGreatDoor

namespace Go.Proofs.YtajojgimbagjoaaGreatDoor.Pct
open Go.RowKit Go.Shelf

theorem putF_app (x h : ByteArray) (b : UInt8) (hh : h.data.toList = [dg (b.toNat / 16), dg (b.toNat % 16)]) : ((x ++ ⟨#[37]⟩) ++ h).data.toList = x.data.toList ++ putL false b := by
  rw [ByteArray.data_append, Array.toList_append, ByteArray.data_append, Array.toList_append, hh]
  simp [putL]

end Go.Proofs.YtajojgimbagjoaaGreatDoor.Pct

namespace Go.Proofs.YtajojgimbagjoaaGreatDoor.Ref
open Go.RowKit Go.Shelf

/-- What stands behind a first piece. -/
def restL (c : UInt8) : List (List UInt8) → List UInt8
  | [] => []
  | p :: r => c :: p ++ restL c r
theorem join_rest (c : UInt8) (p : List UInt8) : ∀ r : List (List UInt8), joinL c (p :: r) = p ++ restL c r
  | [] => by simp [joinL, restL]
  | q :: r => by
    have ih := join_rest c q r
    show p ++ c :: joinL c (q :: r) = p ++ (c :: q ++ restL c r)
    rw [ih]; simp
theorem join_le_rest (c : UInt8) : ∀ r : List (List UInt8), (joinL c r).length ≤ (restL c r).length
  | [] => Nat.le_refl _
  | p :: r => by rw [join_rest]; simp [restL]
theorem join_drop_len (c : UInt8) : ∀ (l : List (List UInt8)) (i : Nat), (joinL c (l.drop i)).length ≤ (joinL c l).length
  | [], i => by simp
  | p :: r, 0 => Nat.le_refl _
  | p :: r, i + 1 => by
    have := join_drop_len c r i
    have h2 := join_le_rest c r
    rw [List.drop_succ_cons, join_rest, List.length_append]; omega
theorem from_len (c : UInt8) : ∀ l : List (List UInt8), (fromL c l).length = l.length
  | [] => rfl
  | p :: r => by simp [fromL, from_len c r]
theorem from_drop (c : UInt8) : ∀ (l : List (List UInt8)) (i : Nat), fromL c (l.drop i) = (fromL c l).drop i
  | [], i => by simp [fromL]
  | p :: r, 0 => rfl
  | p :: r, i + 1 => by simp [fromL, from_drop c r i]
theorem from_take (c : UInt8) (l : List (List UInt8)) (k : Nat) (h : k < l.length) : (fromL c l).take (k + 1) = (fromL c l).take k ++ [joinL c (l.drop k)] := by
  have h2 : k < (fromL c l).length := by rw [from_len]; exact h
  rw [List.take_succ_eq_append_getElem h2]
  congr 2
  have h3 : (fromL c l).drop k = joinL c (l.drop k) :: fromL c (l.drop (k + 1)) := by
    rw [← from_drop, drop_consS l k h]; rfl
  rw [List.drop_eq_getElem_cons h2] at h3
  exact (List.cons.inj h3).1

/-- The address of a piece that begins at place l. -/
def subA (q : Option Addr) (c l : Nat) : Option Addr := if c = l then q else q.map (·.add l)
theorem StIn.from {w : World} {q : Option Addr} {n c i : Nat} {xs : List (List UInt8)} (h : StIn w q n xs) (hc : n ≤ c) (hl : xs.length = n) : StIn w (subA q c i) (n - i) (xs.drop i) := by
  intro hpos
  obtain ⟨b, o, rfl, hb, hcell⟩ := h (by omega)
  refine ⟨b, o + i, ?_, hb, fun k hk => ?_⟩
  · unfold subA
    rw [if_neg (by omega)]
    by_cases h0 : i = 0
    · subst h0; simp [Addr.add]
    · simp [Addr.add, h0]
  · rw [Nat.add_assoc, hcell (i + k) (by omega)]
    simp [List.getD, List.getElem?_drop]
theorem run_slice_fromS (q : Option Addr) (n c i : Nat) (W : World) (hi : i + 1 ≤ n) :
    (Instr.slice 68 (.slice q n c) (some (.int .i64 ((i : Int) + 1))) none none).run Tryz.prog W = .ok (.slice (subA q c (i + 1)) (n - (i + 1)) (c - (i + 1))) W := by
  have hs : ∀ w, (Go.sizeOf 9).run Tryz.prog w = .ok 1 w := Tryz.sizeOf9
  have he : Tryz.prog.elem 68 = 9 := by kernel_rfl
  have h := run_slice_l (P := Tryz.prog) (w := W) 68 q n c (by rw [he]; exact Tryz.underlying68) .i64 ((i : Int) + 1) (by omega) (by omega)
  rw [h, he, hs]
  simp only [Result.andThen, sliced, subA, Nat.mul_one, show ((i : Int) + 1).toNat = i + 1 from by omega]

theorem owns_below {w w' : World} {base : Nat} {e : TypeId} {size n : Nat} {v : Value} {xs : List Value} (h : w.ownsRow base e size v n xs) (hb : Below w.heap.size w w') : w'.ownsRow base e size v n xs := by
  refine ⟨h.1, ?_⟩
  rcases h.2 with hn | ⟨g, cap, cur, rfl, hbg, hgg, rest⟩
  · exact .inl hn
  · exact .inr ⟨g, cap, cur, rfl, hbg, (hb.block g (Array.getElem?_eq_some_iff.1 hgg).1).trans hgg, rest⟩
theorem StIn.grown {w w' : World} {q : Option Addr} {n : Nat} {xs : List (List UInt8)} {o : Obj} {row : Option Nat} (h : StIn w q n xs) (hg : (w.alloc o).grownBy w' row) (hne : ∀ a, q = some a → row ≠ some a.block) : StIn w' q n xs := fun h0 => by
  obtain ⟨b, oo, rfl, hb, hc⟩ := h h0
  have hs : b < (w.alloc o).heap.size := by rw [World.size_alloc]; omega
  have hbl : w'.heap[b]? = w.heap[b]? := (hg.block b hs (fun e => hne _ rfl e.symm)).trans (Below.heap_alloc w _ b hb)
  exact ⟨b, oo, rfl, Nat.lt_of_lt_of_le hs hg.size, fun i hi => by rw [← hc i hi]; simp only [World.cell?, hbl]⟩
theorem ba_join (z p : ByteArray) : (z ++ ⟨#[46]⟩ ++ p).data.toList = z.data.toList ++ 46 :: p.data.toList := by
  simp [ByteArray.data_append, Array.toList_append]

/-- Texts in a row of one's own. -/
def TextsOut (xs : List (List UInt8)) (w : World) (e : Ending) (w' : World) : Prop :=
  ∃ v, e = .returned v ∧ w'.ownsRow w.heap.size 9 1 v xs.length (xs.map strV) ∧ Below w.heap.size w w'
theorem texts_none {xs : List (List UInt8)} {w w' : World} (h : xs = []) (hb : Below w.heap.size w w') : TextsOut xs w (.returned (.slice none 0 0)) w' := by
  subst h
  exact ⟨_, rfl, World.ownsRow_nil _ _ _ _, hb⟩
theorem texts_row {xs : List (List UInt8)} {w w' : World} {v : Value} {n : Nat} {ys : List (List UInt8)} (h : xs = ys) (hn : ys.length = n) (hr : w'.ownsRow w.heap.size 9 1 v n (ys.map strV)) (hb : Below w.heap.size w w') : TextsOut xs w (.returned v) w' := by
  subst h; subst hn
  exact ⟨_, rfl, hr, hb⟩
theorem owns_one (w : World) (x : Value) (base : Nat) (hb : base ≤ w.heap.size) : (w.alloc (.cells #[x] 9)).ownsRow base 9 1 (.slice (some ⟨w.heap.size, 0, none⟩) 1 1) 1 [x] :=
  ⟨by simp, .inr ⟨w.heap.size, 1, #[x], rfl, hb, heap_alloc_new w _, Nat.le_refl _, by decide, by simp, by simp⟩⟩

theorem up_none (t : List UInt8) (h : ¬ (Host.parseE t = 0 ∧ lowL t = t)) : Host.upL t = [] := by unfold Host.upL; rw [if_neg h]
theorem up_one (t : List UInt8) (h : Host.parseE t = 0) (h2 : lowL t = t) (ha : Host.addressB t = true) : Host.upL t = [t] := by
  unfold Host.upL; rw [if_pos ⟨h, h2⟩, if_pos]
  unfold Host.addressB at ha
  rw [Bool.and_eq_true] at ha; exact ha.2
theorem up_from (t : List UInt8) (h : Host.parseE t = 0) (h2 : lowL t = t) (ha : Host.addressB t = false) : Host.upL t = fromL 46 (splitL 46 t) := by
  unfold Host.upL; rw [if_pos ⟨h, h2⟩, if_neg]
  unfold Host.addressB at ha
  rw [decide_eq_true h, Bool.true_and] at ha
  rw [ha]; simp

end Go.Proofs.YtajojgimbagjoaaGreatDoor.Ref

namespace Go.Proofs.YtajojgimbagjoaaGreatDoor
open Go.RowKit Go.Shelf

/-- How a list of texts lies. -/
def StrsIn (w : World) (p : Option Addr) (n : Nat) (xs : List (List UInt8)) : Prop :=
  0 < n → ∃ b o, p = some ⟨b, o, none⟩ ∧ ∀ i, i < n → w.cell? ⟨b, o + i, none⟩ = some (strV (xs.getD i []))
def sameL (xs ys : List (List UInt8)) : Bool := decide (xs = ys)
def sameS (x y : List UInt8) : Bool := decide (x = y)

theorem strs_row {W : World} {base n : Nat} {v : Value} {xs : List (List UInt8)} (h : W.ownsRow base 9 1 v n (xs.map strV)) :
    ∃ q c, v = .slice q n c ∧ xs.length = n ∧ n ≤ c ∧ c ≤ maxLen ∧ StrsIn W q n xs ∧ (∀ a, q = some a → a.block < W.heap.size ∧ base ≤ a.block) := by
  have hl : xs.length = n := by have := h.1; simpa using this
  rcases h.2 with ⟨rfl, rfl⟩ | ⟨g, cap, cur, rfl, hb, hg, h1, h2, h3, h4⟩
  · exact ⟨none, 0, rfl, hl, Nat.le_refl _, Nat.zero_le _, fun h0 => absurd h0 (Nat.lt_irrefl 0), by intro a ha; cases ha⟩
  · refine ⟨some ⟨g, 0, none⟩, cap, rfl, hl, h1, h2, fun h0 => ⟨g, 0, rfl, fun i hi => ?_⟩, fun a ha => by cases ha; exact ⟨(Array.getElem?_eq_some_iff.1 hg).1, hb⟩⟩
    have hi' : i < xs.length := by omega
    have hcur : cur[i]? = some (strV (xs.getD i [])) := by
      have : (cur.toList.take (n * 1))[i]? = some (strV (xs.getD i [])) := by
        rw [h4]
        simp [List.getElem?_eq_getElem hi', List.getD]
      rw [List.getElem?_take, if_pos (by omega)] at this
      simpa using this
    simp only [World.cell?, hg, Nat.zero_add]
    exact hcur

theorem drop_consS (l : List (List UInt8)) (k : Nat) (h : k < l.length) : l.drop k = l.getD k [] :: l.drop (k + 1) := by
  rw [List.drop_eq_getElem_cons h]
  simp [List.getD, List.getElem?_eq_getElem h]

end Go.Proofs.YtajojgimbagjoaaGreatDoor

namespace Go.Proofs.YtajojgimbagjoaaGreatDoor.Pct
open Go.RowKit Go.Shelf
attribute [local go_sem] Oper.semAt_some

theorem appended_keep {W w1 : World} {n₀ B : Nat} {t e : TypeId} {size : Nat} {v v' : Value} {k m : Nat} {xs ys : List Value} {tmp : Obj} {S : Nat → Prop}
    (hv : Boxed W B t v) (hte : t ≠ e) (hrow : W.ownsRow n₀ e size v k xs) (hS : ¬ S B) (hSo : ∀ b, v.ownBlock = some b → ¬ S b) (hown' : w1.ownsRow n₀ e size v' m ys) (hgrow : (W.alloc tmp).grownBy w1 v.ownBlock) :
    Boxed w1 B t v ∧ Boxed (w1.setCell ⟨B, 0, none⟩ v') B t v' ∧ (w1.setCell ⟨B, 0, none⟩ v').ownsRow n₀ e size v' m ys ∧ Keep S W (w1.setCell ⟨B, 0, none⟩ v') := by
  have hv1 : Boxed w1 B t v := (hv.alloc tmp).kept hgrow (hv.not_row hte hrow)
  exact ⟨hv1, hv1.set v', hown'.kept (grownBy_setCell' w1 B v') (.inr (hv1.not_row hte hown').symm), ((Keep.alloc S W tmp).trans (Keep.of_grownBy hgrow hSo)).trans (Keep.setCell _ _ _ hS)⟩

/-- Between two rounds: what has come, put together by g, lies in the one box's row. -/
def CollI (g : List (UInt8 × Bool) → List UInt8) (base Bo : Nat) (RB : Nat → Prop) (W0 : World) (pre : List (UInt8 × Bool)) (Pv : Nat → Prop) (W : World) : Prop :=
  ∃ v, Boxed W Bo 22 v ∧ W.ownsRow base 5 1 v (g pre).length (byV (g pre)) ∧ (∀ b, Pv b → W0.heap.size ≤ b) ∧ (∀ b, v.ownBlock = some b → ¬ Pv b) ∧ Keep RB W0 W

theorem CollI_abide (g : List (UInt8 × Bool) → List UInt8) (base Bo : Nat) (RB : Nat → Prop) (W0 : World) (hBo : Bo < W0.heap.size) (hRB : ∀ b, RB b → b < W0.heap.size) : Abide (CollI g base Bo RB W0) := by
  rintro pre Pv Pv' A B ⟨v, h1, h2, h3, h5, h6⟩ hk hp
  have hs := h6.size
  refine ⟨v, hk.boxed h1 (fun h => by have := h3 _ h; omega), hk.row h2 h5, fun b hb => ?_, fun b hb hp' => ?_, h6.trans (hk.mono fun b _ hb hpb => by have := h3 b hpb; have := hRB b hb; omega)⟩
  · rcases (hp b hb).1 with h | h
    · exact h3 b h
    · omega
  · rcases (hp _ hp').1 with h | h
    · exact h5 b hb h
    · have := (h2.lt b hb).2; omega

/-- A text's answer. -/
def TextPost (o : Option (List UInt8)) (w : World) (e : Ending) (w' : World) : Prop :=
  ∃ v n, e = .returned (.tuple #[v, .int .i64 n]) ∧ Hid (n = if o.isSome then 0 else 2) ∧ w'.ownsRow w.heap.size 5 1 v (o.getD []).length (byV (o.getD [])) ∧ Below w.heap.size w w'

end Go.Proofs.YtajojgimbagjoaaGreatDoor.Pct

namespace Go.Proofs.YtajojgimbagjoaaGreatDoor.Ref
open Go.RowKit Go.Shelf Url

theorem ten_dig : ∀ n : Fin 10, (ByteArray.extract ⟨#[48, 49, 50, 51, 52, 53, 54, 55, 56, 57]⟩ n.1 (n.1 + 1)).data.toList = digL n.1 := by
  intro n
  rw [dig_small n.1 n.2]
  revert n
  decide +kernel
theorem dig_cap : ∀ (k n : Nat), 1 ≤ k → n < 10 ^ k → (digL n).length ≤ k
  | 0, n, h, _ => absurd h (by omega)
  | k + 1, n, _, h => by
    by_cases h1 : n < 10
    · rw [dig_small n h1]; simp
    · rw [dig_big n h1, List.length_append, List.length_singleton]
      have hk : 1 ≤ k := by
        cases k with
        | zero => simp at h; omega
        | succ k => omega
      have := dig_cap k (n / 10) hk (by rw [Nat.pow_succ] at h; omega)
      omega

set_option maxHeartbeats 2000000 in
theorem Digits_any : ∀ (k n : Nat), n < 10 ^ k → n ≤ 9223372036854775807 → ∀ w : World,
    Calls Tryz.prog 24 #[.int .i64 (n : Int)] w fun e w' => ∃ x : ByteArray, e = .returned (.string x) ∧ Hid (x.data.toList = digL n) ∧ ∃ q, w' = w.drewN q
  | 0, n, h, _ => fun w => by
    have h0 : n = 0 := by simpa using h
    subst h0
    have H := Lib.hid (ten_dig ⟨0, by decide⟩)
    go_enter Tryz.func24, Tryz.ntmps24
    go_wp2
    go_ret
    exact ⟨_, rfl, H, 0, rfl⟩
  | k + 1, n, h, hm => fun w => by
    by_cases h1 : n < 10
    · have H := Lib.hid (ten_dig ⟨n, h1⟩)
      have d1 : decide ((n : Int) < 10) = true := by simp; omega
      go_enter Tryz.func24, Tryz.ntmps24
      go_wp2
      go_ret
      exact ⟨_, rfl, H, 0, rfl⟩
    · have d1 : decide ((n : Int) < 10) = false := by simp; omega
      have c1 := Digits_any k (n / 10) (by rw [Nat.pow_succ] at h; omega) (by omega)
      have hk : 1 ≤ k := by
        cases k with
        | zero => simp at h; omega
        | succ k => omega
      have c2 := Digits_any k (n % 10) (Nat.lt_of_lt_of_le (Nat.mod_lt n (by decide)) (Nat.pow_le_pow_right (n := 10) (by decide) hk)) (by omega)
      have e1 : Int.tdiv (n : Int) 10 = ((n / 10 : Nat) : Int) := by rw [Int.tdiv_eq_ediv_of_nonneg (by omega)]; rfl
      have e2 : Int.tmod (n : Int) 10 = ((n % 10 : Nat) : Int) := by rw [Int.tmod_eq_emod_of_nonneg (by omega)]; rfl
      have H := Lib.hid (show digL n = digL (n / 10) ++ digL (n % 10) by rw [dig_big n h1, dig_small (n % 10) (by omega)])
      have L1 := dig_cap 19 (n / 10) (by decide) (by omega)
      have L2 := dig_cap 19 (n % 10) (by decide) (by omega)
      have w1 : wrap64 ((n / 10 : Nat) : Int) = ((n / 10 : Nat) : Int) := by unfold wrap64; omega
      have w2 : wrap64 ((n % 10 : Nat) : Int) = ((n % 10 : Nat) : Int) := by unfold wrap64; omega
      generalize n / 10 = a at *
      generalize n % 10 = b at *
      clear h hk
      go_enter Tryz.func24, Tryz.ntmps24
      go_wp2_with fail
      refine (c1 _).mono ?_
      rintro e w1 ⟨x, rfl, hx, q, rfl⟩
      have hxl : x.size ≤ 19 := by rw [← ba_len, hx.out]; exact L1
      go_wp2_with fail
      refine (c2 _).mono ?_
      rintro e w1 ⟨y, rfl, hy, q2, rfl⟩
      have hyl : y.size ≤ 19 := by rw [← ba_len, hy.out]; exact L2
      go_wp2
      go_ret
      refine ⟨_, rfl, Lib.hid ?_, _, rfl⟩
      rw [ByteArray.data_append, Array.toList_append, hx.out, hy.out, H.out]

theorem ba_of {x : ByteArray} {l : List UInt8} (h : x.data.toList = l) : x = ⟨l.toArray⟩ := ba_ext _ _ (by rw [h])
theorem ba_cat (a b : List UInt8) : (⟨a.toArray⟩ ++ ⟨b.toArray⟩ : ByteArray) = ⟨(a ++ b).toArray⟩ := by
  apply ByteArray.ext; simp
/-- The document's own URL, as a value. -/
def refV (u : U) : Value := .agg #[.string ⟨u.scheme.toArray⟩, .string ⟨u.host.toArray⟩, .int .i64 u.port, .string ⟨u.path.toArray⟩, .string ⟨u.query.toArray⟩, .string ⟨u.frag.toArray⟩, .bool u.hq, .bool u.hf]

set_option maxRecDepth 100000 in
set_option maxHeartbeats 4000000 in
theorem Place_any (u : U) (w : World) (hs : u.scheme.length ≤ 1048576) (hh : u.host.length ≤ 1048576) (hp : u.port ≤ 65535) :
    Calls Tryz.prog 10 #[refV u] w fun e w' => e = .returned (.string ⟨(Org.placeU u).toArray⟩) ∧ Below w.heap.size w w' := by
  have HPT := Lib.hid (show Org.placeU u = u.scheme ++ [58, 47, 47] ++ u.host ++ (if u.port = ownP u.scheme then [] else 58 :: digL u.port) from rfl)
  have con : ∀ W, Calls Tryz.prog 16 #[.string ⟨u.scheme.toArray⟩] W fun e w' => e = .returned (.int .i64 (ownP u.scheme)) ∧ w' = W := fun W => (Own_any ⟨u.scheme.toArray⟩ W).mono fun e w' h => ⟨h.1, h.2.symm⟩
  have con2 := fun W => Digits_any 19 u.port (Nat.lt_of_le_of_lt hp (by decide)) (by omega) W
  have hdl := dig_len u.port hp
  have B1 := fun cs => (Below.refl _ w).alloc (Nat.le_refl _) (.cells cs 30)
  unfold refV
  generalize Org.placeU u = PL at *
  obtain ⟨S, H, p, P, Q, F, hq, hf⟩ := u
  simp only at *
  have l1 : S.length ≤ 9223372036854775804 := by omega
  have l2 : S.length + 3 + H.length ≤ 9223372036854775807 := by omega
  have l3 : S.length + 3 + H.length ≤ 9223372036854775806 := by omega
  by_cases hpo : p = ownP S
  · have e5 : ((p : Int) != (ownP S : Int)) = false := by unfold bne; rw [beq_iff_eq.2 (by omega)]; rfl
    have HR := Lib.hid (show PL = S ++ [58, 47, 47] ++ H by rw [HPT.out, if_pos hpo, List.append_nil])
    clear hpo con2 HPT
    go_enter Tryz.func10, Tryz.ntmps10
    go_wp2_with (go_quiet ((go_at_call 16; exact Calls.quiet_of_same (con _))))
    go_ret
    exact ⟨congrArg (fun s => Ending.returned (Value.string s)) (by rw [HR.out, ← ba_cat, ← ba_cat]), (B1 _).trans ⟨rfl, rfl, rfl, Nat.le_refl _, fun _ _ => rfl⟩⟩
  · have e5 : ((p : Int) != (ownP S : Int)) = true := by unfold bne; rw [beq_eq_false_iff_ne.2 (by omega)]; rfl
    have HR := Lib.hid (show PL = S ++ [58, 47, 47] ++ H ++ [58] ++ digL p by rw [HPT.out, if_neg hpo]; simp)
    clear hpo HPT
    go_enter Tryz.func10, Tryz.ntmps10
    go_wp2_with (go_quiet ((go_at_call 16; exact Calls.quiet_of_same (con _))))
    refine (con2 _).mono ?_
    rintro e w2 ⟨x, rfl, hx, q2, rfl⟩
    obtain rfl := ba_of hx.out
    have l4 : S.length + 3 + H.length + 1 + (digL p).length ≤ 9223372036854775807 := by omega
    go_wp2
    go_ret
    exact ⟨congrArg (fun s => Ending.returned (Value.string s)) (by rw [HR.out, ← ba_cat, ← ba_cat, ← ba_cat, ← ba_cat]), (B1 _).trans ⟨rfl, rfl, rfl, Nat.le_refl _, fun _ _ => rfl⟩⟩

end Go.Proofs.YtajojgimbagjoaaGreatDoor.Ref

namespace Go.Proofs.YtajojgimbagjoaaGreatDoor.Pct
open Go.RowKit Go.Shelf

theorem info_item : (Tryz.prog.info? 76).map (fun i => (i.zero, i.size, i.bytes)) = some (some (.agg #[.int .u8 0, .bool false]), 2, 2) := by kernel_rfl
/-- Items as they lie. -/
def itV (m : List (UInt8 × Bool)) : List Value := m.flatMap fun x => [.int .u8 (x.1.toNat : Int), .bool x.2]
theorem itV_snoc (m : List (UInt8 × Bool)) (b : UInt8) (c : Bool) : itV (m ++ [(b, c)]) = itV m ++ [.int .u8 (b.toNat : Int), .bool c] := by
  unfold itV; rw [List.flatMap_append]; rfl
theorem cell_two_new (w : World) (x y : Value) (t : TypeId) : ∀ j u, [x, y][j]? = some u → (w.alloc (.cells #[x, y] t)).cell? ((⟨w.heap.size, 0, none⟩ : Addr).add j) = some u := by
  intro j u hj
  rw [Go.WideShapes.add_plain]
  have hn : (w.alloc (.cells #[x, y] t)).heap[w.heap.size]? = some (.cells #[x, y] t) := World.alloc_heap_new w _
  simp only [World.cell?, hn, Nat.zero_add]
  simpa using hj

/-- Items' answer. -/
def ItemsPost (o : Option (List (UInt8 × Bool))) (w : World) (e : Ending) (w' : World) : Prop :=
  ∃ v, e = .returned (.tuple #[v, .bool o.isSome]) ∧ w'.ownsRow w.heap.size 76 2 v (o.getD []).length (itV (o.getD [])) ∧ Below w.heap.size w w'
theorem post_none {o : Option (List (UInt8 × Bool))} {w w' : World} (ho : o = none) (hb : Below w.heap.size w w') : ItemsPost o w (.returned (.tuple #[.slice none 0 0, .bool false])) w' := by
  subst ho
  exact ⟨_, rfl, World.ownsRow_nil _ _ _ _, hb⟩
theorem post_some {o : Option (List (UInt8 × Bool))} {m : List (UInt8 × Bool)} {v : Value} {w w' : World} (ho : o = some m) (hr : w'.ownsRow w.heap.size 76 2 v m.length (itV m)) (hb : Below w.heap.size w w') : ItemsPost o w (.returned (.tuple #[v, .bool true])) w' := by
  subst ho
  exact ⟨_, rfl, hr, hb⟩

theorem map_snoc (o : Option (List (UInt8 × Bool))) (pre : List (UInt8 × Bool)) (x : UInt8 × Bool) : (o.map (x :: ·)).map (pre ++ ·) = o.map ((pre ++ [x]) ++ ·) := by
  cases o <;> simp

theorem dig2_short (r : List UInt8) (hl : r.length < 2) : dig2 r = false := by
  match r, hl with
  | [], _ => rfl
  | [_], _ => rfl
theorem ext_two (s : ByteArray) (k : Nat) (h : k + 2 ≤ s.size) : (s.extract k (k + 2)).data.toList = [s.data.toList.getD k 0, s.data.toList.getD (k + 1) 0] := by
  have h1 := drop_cons s.data.toList k (by rw [ba_len]; omega)
  have h2 := drop_cons s.data.toList (k + 1) (by rw [ba_len]; omega)
  simp only [ByteArray.data_extract, Array.toList_extract, List.extract_eq_take_drop]
  rw [show k + 2 - k = 2 from by omega, h1, h2]
  rfl

set_option maxRecDepth 100000 in
set_option maxHeartbeats 4000000 in
theorem Items_any (s : ByteArray) (w : World) (hs : s.size ≤ 274877906944) :
    Calls Tryz.prog 38 #[.string s] w fun e w' => ItemsPost (itemsL s.data.toList) w e w' := by
  obtain ⟨i0, hi0, hz0, hz1, hz2⟩ := info_parts info_item
  have hmade : (w.alloc (.cells #[] 76)).ownsRow w.heap.size 76 2 (.slice (some ⟨w.heap.size, 0, none⟩) 0 0) 0 [] := World.ownsRow_made w #[] 0 (Nat.le_refl _) (Nat.zero_le _) rfl
  have hB0 := below_alloc (w := w) (.cells #[] 76)
  go_enter Tryz.func38, Tryz.ntmps38
  go_wp2
  go_loopw [4, 5] (fun v i wr => ∃ k : Nat, ∃ pre : List (UInt8 × Bool), k ≤ s.size ∧ pre.length ≤ k ∧ i = .int .i64 k ∧ Below w.heap.size w wr ∧ wr.ownsRow w.heap.size 76 2 v pre.length (itV pre) ∧ Hid (itemsL s.data.toList = (itemsL (s.data.toList.drop k)).map (pre ++ ·))) (fun _ i _ => s.size - (intOf i).toNat)
  case atStart => exact ⟨0, [], Nat.zero_le _, Nat.zero_le _, rfl, hB0, hmade, by rw [List.drop_zero]; cases itemsL s.data.toList <;> rfl⟩
  case round =>
    obtain ⟨k, pre, hk, hpk, rfl, hbr, hown, HR⟩ := hrel
    clear hmade hB0
    have hbs := hbr.size
    by_cases hlt : k < s.size
    · have hck := u8_lt s[k]
      have hd := drop_cons s.data.toList k (by rw [ba_len]; exact hlt)
      rw [← ba_get s k hlt] at hd
      by_cases he : s[k] = 37
      · have e1 : ((s[k].toNat : Int) != 37) = false := by rw [he]; rfl
        rw [he] at hd
        by_cases h3 : k + 3 ≤ s.size
        · have hd1 := drop_cons s.data.toList (k + 1) (by rw [ba_len]; omega)
          have hd2 := drop_cons s.data.toList (k + 1 + 1) (by rw [ba_len]; omega)
          have hx2 := ext_two s (k + 1) (by omega)
          obtain ⟨x, hx⟩ : ∃ x, x = s.data.toList.getD (k + 1) 0 := ⟨_, rfl⟩
          obtain ⟨y, hy⟩ : ∃ y, y = s.data.toList.getD (k + 1 + 1) 0 := ⟨_, rfl⟩
          rw [← hx] at hd1 hx2
          rw [← hy] at hd2 hx2
          rw [hd1, hd2] at hd
          have con := fun W => value_any (s.extract (k + 1) (k + 3)) x y W hx2
          have d3 : decide ((s.size : Int) - (k : Int) < 3) = false := by simp; omega
          by_cases hh : hexB x = true ∧ hexB y = true
          · have H := Lib.hid (show itemsL s.data.toList = (itemsL (s.data.toList.drop (k + 1 + 1 + 1))).map ((pre ++ [(pairV x y, true)]) ++ ·) by rw [HR.out, hd, items_coded _ _ _ hh.1 hh.2, map_snoc])
            have hv : valI x y = ((pairV x y).toNat : Int) := by unfold valI; rw [hh.1, hh.2]; rfl
            rw [hv] at con
            have hpv := u8_lt (pairV x y)
            generalize pairV x y = pv at *
            have d4 : decide ((pv.toNat : Int) < 0) = false := by simp
            clear hd1 hd2 hx2 hx hy hh hv hd HR he
            go_wp2_with fail
            refine (con _).mono ?_
            rintro e w2 ⟨rfl, q2, rfl⟩
            go_wp2_with fail
            refine (con _).mono ?_
            rintro e w3 ⟨rfl, q3, rfl⟩
            have hown3 : ((wr.drewN q2).drewN q3).ownsRow w.heap.size 76 2 _ pre.length (itV pre) := hown
            have hbr3 : Below w.heap.size w ((wr.drewN q2).drewN q3) := hbr.trans ⟨rfl, rfl, rfl, Nat.le_refl _, fun _ _ => rfl⟩
            have hbs3 : w.heap.size ≤ ((wr.drewN q2).drewN q3).heap.size := hbs
            generalize (wr.drewN q2).drewN q3 = w3 at *
            clear con hown hbr hbs
            go_wp2_with (at_builtin; refine wpList_append_own_at _ rfl _ _ 72 rfl w.heap.size 76 i0 (.agg #[.int .u8 0, .bool false]) 2 2 Tryz.underlying72 hi0 hz0 hz1 hz2 rfl (by decide) _ pre.length (itV pre) rfl (hown3.alloc _) ⟨w3.heap.size, 0, none⟩ 1 1 [.int .u8 (pv.toNat : Int), .bool true] rfl rfl (cell_two_new _ _ _ _) (by simp [Value.oneCell']) (by unfold maxLen; omega) (by omega) (by simp; omega) ?_; intro v' w1 hown' hgrow _ hat)
            go_roundw
            case rel => exact ⟨k + 3, pre ++ [(pv, true)], by omega, by simp; omega, by go_num, hbr3.trans ((((below_alloc _).mono hbs3).trans ((Below.refl _ _).grown hgrow (by simp; omega) (fun b hb => (hown3.lt b hb).1)))), by rw [itV_snoc]; simpa using hown', H⟩
            case measure => simp [intOf]; omega
          · have H := Lib.hid (show itemsL s.data.toList = none by
              rw [HR.out, hd, items_bad]; rfl
              show (hexB x && hexB y) = false
              cases h1 : hexB x with
              | false => rfl
              | true => cases h2 : hexB y with
                | false => rfl
                | true => exact absurd ⟨h1, h2⟩ hh)
            have hv : valI x y = -1 := by
              unfold valI
              rw [if_neg]
              rw [Bool.and_eq_true]; exact hh
            rw [hv] at con
            clear hd1 hd2 hx2 hx hy hh hv hd HR he
            go_wp2_with fail
            refine (con _).mono ?_
            rintro e w2 ⟨rfl, q2, rfl⟩
            clear con
            go_wp2
            go_ret2
            exact post_none H.out (hbr.trans ⟨rfl, rfl, rfl, Nat.le_refl _, fun _ _ => rfl⟩)
        · have d3 : decide ((s.size : Int) - (k : Int) < 3) = true := by simp; omega
          have H := Lib.hid (show itemsL s.data.toList = none by
            rw [HR.out, hd, items_bad]; rfl
            exact dig2_short _ (by rw [List.length_drop, ba_len]; omega))
          clear hd HR he
          go_wp2
          go_ret2
          exact post_none H.out hbr
      · have e1 : ((s[k].toNat : Int) != 37) = true := by
          rw [bne_iff_ne]; intro h; exact he (UInt8.toNat_inj.1 (by have : (37 : UInt8).toNat = 37 := rfl; omega))
        have H := Lib.hid (show itemsL s.data.toList = (itemsL (s.data.toList.drop (k + 1))).map ((pre ++ [(s[k], false)]) ++ ·) by rw [HR.out, hd, items_as _ _ he, map_snoc])
        clear hd he HR
        go_wp2_with (at_builtin; refine wpList_append_own_at _ rfl _ _ 72 rfl w.heap.size 76 i0 (.agg #[.int .u8 0, .bool false]) 2 2 Tryz.underlying72 hi0 hz0 hz1 hz2 rfl (by decide) _ pre.length (itV pre) rfl (hown.alloc _) ⟨wr.heap.size, 0, none⟩ 1 1 [.int .u8 (s[k].toNat : Int), .bool false] rfl rfl (cell_two_new _ _ _ _) (by simp [Value.oneCell']) (by unfold maxLen; omega) (by omega) (by simp; omega) ?_; intro v' w1 hown' hgrow _ hat)
        go_roundw
        case rel => exact ⟨k + 1, pre ++ [(s[k], false)], by omega, by simp; omega, by go_num, hbr.trans ((((below_alloc _).mono hbs).trans ((Below.refl _ _).grown hgrow (by simp; omega) (fun b hb => (hown.lt b hb).1)))), by rw [itV_snoc]; simpa using hown', H⟩
        case measure => simp [intOf]; omega
    · have H := Lib.hid (show itemsL s.data.toList = some pre by rw [HR.out, List.drop_of_length_le (by rw [ba_len]; omega)]; simp [items_nil])
      clear HR
      go_wp2
      go_ret2
      exact post_some H.out hown hbr

end Go.Proofs.YtajojgimbagjoaaGreatDoor.Pct

namespace Go.Proofs.YtajojgimbagjoaaGreatDoor
open Go.RowKit Go.Shelf
attribute [local go_sem] Oper.semAt_some

theorem row_form {W : World} {base : Nat} {e : TypeId} {size n : Nat} {v : Value} {xs : List Value} (h : W.ownsRow base e size v n xs) : ∃ q c, v = .slice q n c := by
  rcases h.2 with ⟨rfl, rfl⟩ | ⟨g, cap, cur, rfl, _⟩
  · exact ⟨none, 0, rfl⟩
  · exact ⟨_, _, rfl⟩
def strN (x : Nat × List UInt8) : Value := strV x.2

/-- Between two rounds: what has come lies in out. -/
def CntI (n₀ Bo : Nat) (w : World) (pre : List (Nat × List UInt8)) (Pv : Nat → Prop) (W : World) : Prop :=
  ∃ v, Boxed W Bo 68 v ∧ Boxed W (Bo + 1) 4 (.bool true) ∧ W.ownsRow n₀ 9 1 v pre.length (pre.map strN) ∧ (∀ b, Pv b → n₀ ≤ b) ∧ (¬ Pv Bo ∧ ¬ Pv (Bo + 1)) ∧ (∀ b, v.ownBlock = some b → ¬ Pv b) ∧ Below n₀ w W

theorem CntI_abide (n₀ Bo : Nat) (w : World) (hn : n₀ ≤ w.heap.size) : Abide (CntI n₀ Bo w) := by
  rintro pre Pv Pv' A B ⟨v, h1, h1', h2, h3, ⟨h4, h4'⟩, h5, h6⟩ hk hp
  have hs := h6.size
  refine ⟨v, hk.boxed h1 h4, hk.boxed h1' h4', hk.row h2 h5, fun b hb => ?_, ⟨fun hb => ?_, fun hb => ?_⟩, fun b hb hp' => ?_, h6.trans ⟨hk.os, hk.tape, hk.output, hk.size, fun k hk' => hk.block k (by omega) (fun hpk => by have := h3 k hpk; omega)⟩⟩
  · rcases (hp b hb).1 with h | h
    · exact h3 b h
    · omega
  · rcases (hp _ hb).1 with h | h
    · exact h4 h
    · have := h1.lt; omega
  · rcases (hp _ hb).1 with h | h
    · exact h4' h
    · have := h1'.lt; omega
  · rcases (hp _ hp').1 with h | h
    · exact h5 b hb h
    · have := (h2.lt b hb).2; omega

end Go.Proofs.YtajojgimbagjoaaGreatDoor

namespace Go.Proofs.YtajojgimbagjoaaGreatDoor.Pct
open Go.RowKit Go.Shelf
attribute [local go_sem] Oper.semAt_some

theorem grown_keep {W w1 : World} {n₀ B : Nat} {t e : TypeId} {size : Nat} {v v' : Value} {k m : Nat} {xs ys : List Value} {S : Nat → Prop}
    (hv : Boxed W B t v) (hte : t ≠ e) (hrow : W.ownsRow n₀ e size v k xs) (hS : ¬ S B) (hSo : ∀ b, v.ownBlock = some b → ¬ S b) (hown' : w1.ownsRow n₀ e size v' m ys) (hG : Grown W v w1 v') :
    Boxed w1 B t v ∧ Boxed (w1.setCell ⟨B, 0, none⟩ v') B t v' ∧ (w1.setCell ⟨B, 0, none⟩ v').ownsRow n₀ e size v' m ys ∧ Keep S W (w1.setCell ⟨B, 0, none⟩ v') := by
  have hv1 : Boxed w1 B t v := (hG.1 (fun b => v.ownBlock ≠ some b) (fun b hb h => h hb)).boxed hv (hv.not_row hte hrow).symm
  exact ⟨hv1, hv1.set v', hown'.kept (grownBy_setCell' w1 B v') (.inr (hv1.not_row hte hown').symm), (hG.1 S hSo).trans (Keep.setCell _ _ _ hS)⟩
theorem can_one (p : Int) (pre : List (UInt8 × Bool)) (x : UInt8) (cd : Bool) : canL p (pre ++ [(x, cd)]) = canL p pre ++ putL (canB p (x, cd)) x := by
  simp [canL]

set_option maxRecDepth 100000 in
set_option maxHeartbeats 4000000 in
theorem Canon_any (q : Option Addr) (n c : Nat) (l : List UInt8) (p : Int) (w : World) (hl : l.length = n) (hn : n ≤ 274877906944) (hb : Lib.BytesIn w q n (Lib.numsL l)) :
    Calls Tryz.prog 33 #[.slice q n c, .int .i64 p] w fun e w' => TextPost ((itemsL l).map (canL p)) w e w' := by
  obtain ⟨i0, hi0, hz0, hz1, hz2⟩ := info_parts info_u8
  obtain ⟨Wp, hWp⟩ : ∃ Wp, w.alloc (.cells #[.int .i64 p] 67) = Wp := ⟨_, rfl⟩
  have hbp : Boxed Wp w.heap.size 67 (.int .i64 p) := by rw [← hWp]; exact Boxed.new w _ _
  have hkp : ∀ S, Keep S w Wp := fun S => by rw [← hWp]; exact Keep.alloc S w _
  have hsp : Wp.heap.size = w.heap.size + 1 := by rw [← hWp]; simp
  have hql := bytes_lt hb
  replace hb := bytes_keep hb (hkp (fun _ => True)) (fun _ _ _ => trivial)
  have con := whole_any q n c l Wp hl (by omega) hb
  have HWp := Lib.hid hWp
  clear hWp
  refine (callsIn_wide (n := 1)).1 ?_
  refine callsIn_of_wp_marks Tryz.func33 rfl trivial ?_ rfl
  simp only [Tryz.ntmps33, List.size_toArray, List.length_cons, List.length_nil, Nat.reduceAdd, Nat.reduceSub, Array.replicate_succ, Array.replicate_zero, List.push_toArray, List.append_toArray, List.nil_append, List.cons_append]
  cases hw : wholeL l with
  | false =>
    have hi := whole_none l hw
    rw [hw] at con
    have HI := Lib.hid hi
    clear hi hw hl hb
    have hBp := (hkp (fun b => b < w.heap.size)).below (Nat.le_refl _)
    clear hsp hkp
    gi_wp2_with fail
    rw [HWp.out]
    refine ⟨trivial, (callsIn_wide.2 con).mono ?_⟩
    rintro e w' ⟨rfl, rfl⟩
    clear con hql
    gi_wp2
    refine ⟨_, results_tmp2 rfl _ _ _, .slice none 0 0, 2, rfl, Lib.hid (by rw [HI.out]; rfl), ?_, hBp⟩
    rw [HI.out]
    exact World.ownsRow_nil _ _ _ _
  | true =>
    obtain ⟨m, hm⟩ := whole_some l hw
    rw [hw] at con
    have hml : m.length ≤ n := by have := items_len l m hm; omega
    obtain ⟨w1, hrun, hown, hgrow⟩ := run_make_own (P := Tryz.prog) (w := Wp) (w.heap.size + 1) 22 5 i0 (.int .u8 0) 1 Tryz.underlying22 hi0 hz0 hz1 .i64 .i64 n (by rw [hz2]; omega) (by unfold maxLen; omega) (by omega)
    have hk1 : ∀ S, Keep S Wp w1 := fun S => Keep.of_grownBy hgrow (fun r h => by cases h)
    have hw1 : w.heap.size + 1 < w1.heap.size := by have := (hown.lt Wp.heap.size rfl).2; omega
    rw [hsp] at hown hrun
    obtain ⟨W1, hW1⟩ : ∃ W1, w1.alloc (.cells #[.slice (some ⟨w.heap.size + 1, 0, none⟩) 0 n] 22) = W1 := ⟨_, rfl⟩
    have hs1 : W1.heap.size = w1.heap.size + 1 := by rw [← hW1]; simp
    have b0 : Boxed (W1.alloc (.cells #[.slice q n c] 22)) w1.heap.size 22 (.slice (some ⟨w.heap.size + 1, 0, none⟩) 0 n) := by rw [← hW1]; exact (Boxed.new w1 _ _).alloc _
    have b1 := Boxed.new W1 22 (.slice q n c)
    have own0 : (W1.alloc (.cells #[.slice q n c] 22)).ownsRow (w.heap.size + 1) 5 1 (.slice (some ⟨w.heap.size + 1, 0, none⟩) 0 n) 0 [] := by rw [← hW1]; exact (hown.alloc _).alloc _
    have hk0 : ∀ S, Keep S Wp (W1.alloc (.cells #[.slice q n c] 22)) := fun S => by rw [← hW1]; exact (hk1 S).trans ((Keep.alloc S w1 _).trans (Keep.alloc S _ _))
    have hs0 : (W1.alloc (.cells #[.slice q n c] 22)).heap.size = w1.heap.size + 2 := by simp; omega
    have con2 := meant_any q n c W1
    have hb0 := bytes_keep hb (hk0 (fun _ => True)) (fun _ _ _ => trivial)
    have HM := Lib.hid hm
    have HL := Lib.hid hl
    have HW1 := Lib.hid hW1
    have HS1 := Lib.hid hs1
    have HS0 := Lib.hid hs0
    have HSP := Lib.hid hsp
    clear hm hw hl hgrow hown hk1 hW1 hs1 hs0 hb hsp
    gi_wp2_with fail
    rw [HWp.out]
    refine ⟨trivial, (callsIn_wide.2 con).mono ?_⟩
    rintro e w' ⟨rfl, rfl⟩
    clear con
    gi_wp2_with fail
    rw [HW1.out]
    refine ⟨trivial, (callsIn_wide.2 con2).mono ?_⟩
    rintro e W0 ⟨rfl, hW0⟩
    rw [← hW0] at b0 b1 own0 hk0 hb0 HS0
    clear con2 hW0 hrun
    gi_wp2
    have hs1 := HS1.out
    have hs0 := HS0.out
    replace hbp := (hk0 (fun _ => True)).boxed hbp trivial
    rw [hs1] at b1
    obtain ⟨RB, hRB⟩ : ∃ RB : Nat → Prop, RB = fun b => b < w.heap.size + 1 ∨ b = w1.heap.size + 1 := ⟨_, rfl⟩
    have hRl : ∀ b, RB b → b < W0.heap.size := fun b hb => by rw [hRB] at hb; rcases hb with h | h <;> omega
    have hRo : ∀ b, b < w.heap.size + 1 → RB b := fun b hb => by rw [hRB]; exact .inl hb
    have hRi : RB (w1.heap.size + 1) := by rw [hRB]; exact .inr rfl
    have hRn : ¬ RB w1.heap.size := fun hb => by rw [hRB] at hb; rcases hb with h | h <;> omega
    have hRr : ∀ b, RB b → w.heap.size + 1 ≤ b → b = w1.heap.size + 1 := fun b hb h => by rw [hRB] at hb; rcases hb with h' | h'; omega; exact h'
    clear hRB
    rw [hs1]
    clear hs1 HS1
    refine rf_law (gf := 79) (lb := #[.pointer (some ⟨w1.heap.size + 1, 0, none⟩)]) rfl (enters_of Tryz.func79 (by kernel_rfl) rfl)
      (meant1_iter (w1.heap.size + 1) q n c l m RB W0 HL.out (by omega) HM.out hb0 (fun a ha h0 => hRo _ (by have := hql a ha h0; omega)) b1 hRi) (Keep.refl _ _) hRl (fun x args G W h => by rw [h.1]; rfl)
      (CollI (canL p) (w.heap.size + 1) w1.heap.size RB W0) (fun _ _ _ _ => False) (CollI_abide _ _ _ _ _ (by omega) hRl) (fun _ _ _ _ _ _ h _ _ => h)
      ⟨_, b0, own0, (fun _ h => h.elim), (fun _ _ h => h), Keep.refl _ _⟩ ?round ?done ?stop
    case round =>
      rintro ll pre ⟨x, cd⟩ rest Pv G args Wr hll hxs ⟨v, hbx, hrow, hge, hnv, hKW⟩ hPl hGl hPb hGP ⟨rfl, rfl⟩
      have hpl : (canL p pre).length ≤ 70368744177664 := by
        have h1 : pre.length + rest.length + 1 = m.length := by rw [hxs]; simp; omega
        have h2 := can_len p pre
        omega
      have hxx := u8_lt x
      clear b0 own0 hb0 hxs
      gi_wp2
      refine ⟨Keep.refl _ _, fun W2 hk2 hs2 r hr => ?_⟩
      have hnP : ∀ b, b < W0.heap.size → ¬ Pv b := fun b hb h => by have := hge b h; omega
      have hk2' : Keep (fun b => ¬ Pv b) Wr W2 := hk2.mono fun b _ hb h => hb (h ▸ hPl)
      replace hbx := hk2'.boxed hbx (hnP _ (by omega))
      replace hrow := hk2'.row hrow hnv
      have hK2 : Keep RB W0 W2 := hKW.trans (hk2'.mono fun b _ hb => hnP b (hRl b hb))
      have hPl2 : ∀ b, Pv b → b < W2.heap.size := fun b hb => by rw [hs2]; exact hPb b hb
      have hvn : ∀ b, v.ownBlock = some b → ¬ (RB b ∨ Pv b) := fun b hb h => by
        rcases h with h | h
        · have h1 := hrow.lt b hb
          have h2 := hRr b h h1.1
          rw [h2] at hb
          exact (hK2.boxed b1 hRi).not_row (by decide) hrow hb.symm
        · exact hnv b hb h
      clear hk2 hk2' hs2 hr hKW
      obtain ⟨Wd, hWd⟩ : ∃ Wd, W2.drew = Wd := ⟨_, rfl⟩
      have hkd : ∀ S, Keep S W2 Wd := fun S => by rw [← hWd]; exact Keep.drew S W2
      replace hbx := (hkd (fun _ => True)).boxed hbx trivial
      replace hrow := (hkd (fun _ => True)).row hrow (fun _ _ => trivial)
      have hKd := hK2.trans (hkd RB)
      replace hPl2 : ∀ b, Pv b → b < Wd.heap.size := fun b hb => by rw [← hWd]; exact hPl2 b hb
      replace hbp := hKd.boxed hbp (hRo _ (by omega))
      have cB := hbx.cell
      have hS := hbp.cell
      have hszW := hKd.size
      have hwW : w.heap.size + 1 ≤ Wd.heap.size := by omega
      have HWd := Lib.hid hWd
      have c1 := isFree_any x
      have c2 := stands_any x p
      have c3 := fun s => appendByte_any (w.heap.size + 1) v (canL p pre) x s Wd hrow hwW hpl
      obtain ⟨z1, H1⟩ : ∃ z, Hid (freeB x = z) := ⟨_, rfl⟩
      obtain ⟨z2, H2⟩ : ∃ z, Hid (standsB p x = z) := ⟨_, rfl⟩
      rw [H1.out] at c1
      rw [H2.out] at c2
      have hcb : canB p (x, cd) = (z1 || (!cd && z2)) := by unfold canB; rw [H1.out, H2.out]
      clear hWd H1 H2
      gi_wp2_with fail
      refine region_any (fun X => X.cell? ⟨w.heap.size, 0, none⟩ = some (.int .i64 p)) (by kernel_rfl) ?_
      rw [HWd.out]
      cases z1
      · cases cd
        · have HC := Lib.hid (show canB p (x, false) = z2 by rw [hcb]; rfl)
          clear hcb
          refine anyC_take 1 (v := (.int .u8 (x.toNat : Int))) rfl (by kernel_rfl) (by kernel_rfl) (by kernel_rfl) (by kernel_rfl) (fun _ _ _ h => h) (.inl ⟨by rfl, fun X hX => ⟨fun _ _ => trivial, .inl ?_⟩⟩) hS ?_
          · go_simp
          simp only [Act.put, List.getElem_toArray, List.getElem_cons_zero, List.getElem_cons_succ, List.setIfInBounds_toArray, List.set_cons_zero, List.set_cons_succ]
          refine anyH_list #[false, true, false, false, false, false, false, false, false, false, false, false, false, false, false] (by kernel_rfl) ?_
          refine anyC_take 2 (v := (.int .u8 (x.toNat : Int))) rfl (by kernel_rfl) (by kernel_rfl) (by kernel_rfl) (by kernel_rfl) (fun _ _ _ h => h) (.inl ⟨by rfl, fun X hX => ⟨fun _ _ => trivial, .inl ?_⟩⟩) hS ?_
          · go_simp
          simp only [Act.put, List.getElem_toArray, List.getElem_cons_zero, List.getElem_cons_succ, List.setIfInBounds_toArray, List.set_cons_zero, List.set_cons_succ]
          refine anyH_list #[false, true, true, false, false, false, false, false, false, false, false, false, false, false, false] (by kernel_rfl) ?_
          refine anyC_take 3 (v := (.bool false)) rfl (by kernel_rfl) (by kernel_rfl) (by kernel_rfl) (by kernel_rfl) (fun _ _ _ h => h) (.inl ⟨by rfl, fun X hX => ⟨fun _ _ => trivial, .inr ⟨57, #[.int .u8 (x.toNat : Int)], ?_, (fun h => by cases h), (CallsIn.inRound ll (callsIn_wide.2 (c1 X))).mono (fun _ _ h => ⟨h.1, h.2.symm⟩)⟩⟩⟩) hS ?_
          · go_simp
          simp only [Act.put, List.getElem_toArray, List.getElem_cons_zero, List.getElem_cons_succ, List.setIfInBounds_toArray, List.set_cons_zero, List.set_cons_succ]
          refine anyH_list #[false, true, true, true, false, false, false, false, false, false, false, false, false, false, false] (by kernel_rfl) ?_
          refine anyC_take 4 (v := (.bool false)) rfl (by kernel_rfl) (by kernel_rfl) (by kernel_rfl) (by kernel_rfl) (fun _ _ _ h => h) (.inl ⟨by rfl, fun X hX => ⟨fun _ _ => trivial, .inl ?_⟩⟩) hS ?_
          · go_simp
          simp only [Act.put, List.getElem_toArray, List.getElem_cons_zero, List.getElem_cons_succ, List.setIfInBounds_toArray, List.set_cons_zero, List.set_cons_succ]
          refine anyH_list #[false, true, true, true, true, false, false, false, false, false, false, false, false, false, false] (by kernel_rfl) ?_
          refine anyC_take 5 (v := (.bool false)) rfl (by kernel_rfl) (by kernel_rfl) (by kernel_rfl) (by kernel_rfl) (fun _ _ _ h => h) (.inl ⟨by rfl, fun X hX => ⟨fun _ _ => trivial, .inl ?_⟩⟩) hS ?_
          · go_simp
          simp only [Act.put, List.getElem_toArray, List.getElem_cons_zero, List.getElem_cons_succ, List.setIfInBounds_toArray, List.set_cons_zero, List.set_cons_succ]
          refine anyH_list #[false, true, true, true, true, true, false, false, false, false, false, false, false, false, false] (by kernel_rfl) ?_
          refine anyC_take 6 (v := (.bool true)) rfl (by kernel_rfl) (by kernel_rfl) (by kernel_rfl) (by kernel_rfl) (fun _ _ _ h => h) (.inl ⟨by rfl, fun X hX => ⟨fun _ _ => trivial, .inl ?_⟩⟩) hS ?_
          · go_simp
          simp only [Act.put, List.getElem_toArray, List.getElem_cons_zero, List.getElem_cons_succ, List.setIfInBounds_toArray, List.set_cons_zero, List.set_cons_succ]
          refine anyH_list #[false, true, true, true, true, true, true, false, false, false, false, false, false, false, false] (by kernel_rfl) ?_
          refine anyC_take 7 (v := (.bool true)) rfl (by kernel_rfl) (by kernel_rfl) (by kernel_rfl) (by kernel_rfl) (fun _ _ _ h => h) (.inl ⟨by rfl, fun X hX => ⟨fun _ _ => trivial, .inl ?_⟩⟩) hS ?_
          · go_simp
          simp only [Act.put, List.getElem_toArray, List.getElem_cons_zero, List.getElem_cons_succ, List.setIfInBounds_toArray, List.set_cons_zero, List.set_cons_succ]
          refine anyH_list #[false, true, true, true, true, true, true, true, false, false, false, false, false, false, false] (by kernel_rfl) ?_
          refine anyC_take 8 (v := (.int .u8 (x.toNat : Int))) rfl (by kernel_rfl) (by kernel_rfl) (by kernel_rfl) (by kernel_rfl) (fun _ _ _ h => h) (.inl ⟨by rfl, fun X hX => ⟨fun _ _ => trivial, .inl ?_⟩⟩) hS ?_
          · go_simp
          simp only [Act.put, List.getElem_toArray, List.getElem_cons_zero, List.getElem_cons_succ, List.setIfInBounds_toArray, List.set_cons_zero, List.set_cons_succ]
          refine anyH_list #[false, true, true, true, true, true, true, true, true, false, false, false, false, false, false] (by kernel_rfl) ?_
          refine anyC_take 9 (v := (.int .i64 p)) rfl (by kernel_rfl) (by kernel_rfl) (by kernel_rfl) (by kernel_rfl) (fun _ _ _ h => h) (.inl ⟨by rfl, fun X hX => ⟨fun _ _ => trivial, .inl ?_⟩⟩) hS ?_
          · go_simp
          simp only [Act.put, List.getElem_toArray, List.getElem_cons_zero, List.getElem_cons_succ, List.setIfInBounds_toArray, List.set_cons_zero, List.set_cons_succ]
          refine anyH_list #[false, true, true, true, true, true, true, true, true, true, false, false, false, false, false] (by kernel_rfl) ?_
          refine anyC_take 10 (v := (.bool z2)) rfl (by kernel_rfl) (by kernel_rfl) (by kernel_rfl) (by kernel_rfl) (fun _ _ _ h => h) (.inl ⟨by rfl, fun X hX => ⟨fun _ _ => trivial, .inr ⟨58, #[.int .u8 (x.toNat : Int), .int .i64 p], ?_, (fun h => by cases h), (CallsIn.inRound ll (callsIn_wide.2 (c2 X))).mono (fun _ _ h => ⟨h.1, h.2.symm⟩)⟩⟩⟩) hS ?_
          · go_simp
          simp only [Act.put, List.getElem_toArray, List.getElem_cons_zero, List.getElem_cons_succ, List.setIfInBounds_toArray, List.set_cons_zero, List.set_cons_succ]
          refine anyH_list #[false, true, true, true, true, true, true, true, true, true, true, false, false, false, false] (by kernel_rfl) ?_
          refine anyC_take 11 (v := (.bool z2)) rfl (by kernel_rfl) (by kernel_rfl) (by kernel_rfl) (by kernel_rfl) (fun _ _ _ h => h) (.inl ⟨by rfl, fun X hX => ⟨fun _ _ => trivial, .inl ?_⟩⟩) hS ?_
          · go_simp
          simp only [Act.put, List.getElem_toArray, List.getElem_cons_zero, List.getElem_cons_succ, List.setIfInBounds_toArray, List.set_cons_zero, List.set_cons_succ]
          refine anyH_list #[false, true, true, true, true, true, true, true, true, true, true, true, false, false, false] (by kernel_rfl) ?_
          refine anyC_take 12 (v := (.bool z2)) rfl (by kernel_rfl) (by kernel_rfl) (by kernel_rfl) (by kernel_rfl) (fun _ _ _ h => h) (.inl ⟨by rfl, fun X hX => ⟨fun _ _ => trivial, .inl ?_⟩⟩) hS ?_
          · go_simp
          simp only [Act.put, List.getElem_toArray, List.getElem_cons_zero, List.getElem_cons_succ, List.setIfInBounds_toArray, List.set_cons_zero, List.set_cons_succ]
          refine anyH_list #[false, true, true, true, true, true, true, true, true, true, true, true, true, false, false] (by kernel_rfl) ?_
          refine anyH_one 0 (by kernel_rfl) rfl fun K hK => ?_
          go_simp
          refine hK _ _ hS ?_
          clear hK K
          refine anyH_list #[true, true, true, true, true, true, true, true, true, true, true, true, true, false, false] (by kernel_rfl) ?_
          refine anyH_one 13 (by kernel_rfl) rfl fun K hK => ?_
          go_simp
          refine ⟨trivial, rfl, (CallsIn.inRound ll (callsIn_wide.2 (c3 z2))).mono ?_⟩
          rintro e w3 ⟨v', rfl, hr3, hG⟩
          obtain ⟨nt, hnt⟩ : ∃ nt, canL p pre ++ putL z2 x = nt := ⟨_, rfl⟩
          rw [hnt] at hr3
          have HN := Lib.hid hnt
          clear hnt
          obtain ⟨q3, cc3, rfl, _⟩ := row_open hr3
          obtain ⟨hv1, hv2, hr2, hkk⟩ := grown_keep (S := fun b => RB b ∨ Pv b) hbx (by decide) hrow (fun h => h.elim hRn (hnP _ (by omega))) hvn hr3 hG
          have hS3 := ((hG.1 (fun b => b = w.heap.size) (fun b hb h => by have := (hrow.lt b hb).1; omega)).boxed hbp rfl).cell
          have hS4 := (hkk.boxed hbp (.inl (hRo _ (by omega)))).cell
          have hc1 := hv1.cell
          have hf1 := hv1.frozen
          refine hK _ _ hS3 ?_
          clear hK K
          refine anyH_list #[true, true, true, true, true, true, true, true, true, true, true, true, true, true, false] (by kernel_rfl) ?_
          refine anyH_one 14 (by kernel_rfl) rfl fun K hK => ?_
          go_simp
          refine hK _ _ hS4 ?_
          clear hK K
          refine anyH_done (by kernel_rfl) ?_ _
          clear hS3 hc1 hf1 c1 c2 c3
          gi_wp2
          refine ⟨(hkd _).trans hkk, _, hv2, ?_, fun b hb => hge b hb, fun b hb hp => ?_, hKd.trans (hkk.mono fun b _ h => .inl h)⟩
          · rw [can_one, HC.out, HN.out]; exact hr2
          · rcases hG.2 b hb with h | h
            · exact hnv b h hp
            · have h5 := hPl2 _ hp; omega
        · have HC := Lib.hid (show canB p (x, true) = false by rw [hcb]; rfl)
          clear hcb
          refine anyC_take 1 (v := (.int .u8 (x.toNat : Int))) rfl (by kernel_rfl) (by kernel_rfl) (by kernel_rfl) (by kernel_rfl) (fun _ _ _ h => h) (.inl ⟨by rfl, fun X hX => ⟨fun _ _ => trivial, .inl ?_⟩⟩) hS ?_
          · go_simp
          simp only [Act.put, List.getElem_toArray, List.getElem_cons_zero, List.getElem_cons_succ, List.setIfInBounds_toArray, List.set_cons_zero, List.set_cons_succ]
          refine anyH_list #[false, true, false, false, false, false, false, false, false, false, false, false, false, false, false] (by kernel_rfl) ?_
          refine anyC_take 2 (v := (.int .u8 (x.toNat : Int))) rfl (by kernel_rfl) (by kernel_rfl) (by kernel_rfl) (by kernel_rfl) (fun _ _ _ h => h) (.inl ⟨by rfl, fun X hX => ⟨fun _ _ => trivial, .inl ?_⟩⟩) hS ?_
          · go_simp
          simp only [Act.put, List.getElem_toArray, List.getElem_cons_zero, List.getElem_cons_succ, List.setIfInBounds_toArray, List.set_cons_zero, List.set_cons_succ]
          refine anyH_list #[false, true, true, false, false, false, false, false, false, false, false, false, false, false, false] (by kernel_rfl) ?_
          refine anyC_take 3 (v := (.bool false)) rfl (by kernel_rfl) (by kernel_rfl) (by kernel_rfl) (by kernel_rfl) (fun _ _ _ h => h) (.inl ⟨by rfl, fun X hX => ⟨fun _ _ => trivial, .inr ⟨57, #[.int .u8 (x.toNat : Int)], ?_, (fun h => by cases h), (CallsIn.inRound ll (callsIn_wide.2 (c1 X))).mono (fun _ _ h => ⟨h.1, h.2.symm⟩)⟩⟩⟩) hS ?_
          · go_simp
          simp only [Act.put, List.getElem_toArray, List.getElem_cons_zero, List.getElem_cons_succ, List.setIfInBounds_toArray, List.set_cons_zero, List.set_cons_succ]
          refine anyH_list #[false, true, true, true, false, false, false, false, false, false, false, false, false, false, false] (by kernel_rfl) ?_
          refine anyC_take 4 (v := (.bool false)) rfl (by kernel_rfl) (by kernel_rfl) (by kernel_rfl) (by kernel_rfl) (fun _ _ _ h => h) (.inl ⟨by rfl, fun X hX => ⟨fun _ _ => trivial, .inl ?_⟩⟩) hS ?_
          · go_simp
          simp only [Act.put, List.getElem_toArray, List.getElem_cons_zero, List.getElem_cons_succ, List.setIfInBounds_toArray, List.set_cons_zero, List.set_cons_succ]
          refine anyH_list #[false, true, true, true, true, false, false, false, false, false, false, false, false, false, false] (by kernel_rfl) ?_
          refine anyC_take 5 (v := (.bool true)) rfl (by kernel_rfl) (by kernel_rfl) (by kernel_rfl) (by kernel_rfl) (fun _ _ _ h => h) (.inl ⟨by rfl, fun X hX => ⟨fun _ _ => trivial, .inl ?_⟩⟩) hS ?_
          · go_simp
          simp only [Act.put, List.getElem_toArray, List.getElem_cons_zero, List.getElem_cons_succ, List.setIfInBounds_toArray, List.set_cons_zero, List.set_cons_succ]
          refine anyH_list #[false, true, true, true, true, true, false, false, false, false, false, false, false, false, false] (by kernel_rfl) ?_
          refine anyC_take 6 (v := (.bool false)) rfl (by kernel_rfl) (by kernel_rfl) (by kernel_rfl) (by kernel_rfl) (fun _ _ _ h => h) (.inl ⟨by rfl, fun X hX => ⟨fun _ _ => trivial, .inl ?_⟩⟩) hS ?_
          · go_simp
          simp only [Act.put, List.getElem_toArray, List.getElem_cons_zero, List.getElem_cons_succ, List.setIfInBounds_toArray, List.set_cons_zero, List.set_cons_succ]
          refine anyH_list #[false, true, true, true, true, true, true, false, false, false, false, false, false, false, false] (by kernel_rfl) ?_
          refine anyC_take 7 (v := (.bool false)) rfl (by kernel_rfl) (by kernel_rfl) (by kernel_rfl) (by kernel_rfl) (fun _ _ _ h => h) (.inl ⟨by rfl, fun X hX => ⟨fun _ _ => trivial, .inl ?_⟩⟩) hS ?_
          · go_simp
          simp only [Act.put, List.getElem_toArray, List.getElem_cons_zero, List.getElem_cons_succ, List.setIfInBounds_toArray, List.set_cons_zero, List.set_cons_succ]
          refine anyH_list #[false, true, true, true, true, true, true, true, false, false, false, false, false, false, false] (by kernel_rfl) ?_
          refine anyC_take 8 (v := undef) rfl (by kernel_rfl) (by kernel_rfl) (by kernel_rfl) (by kernel_rfl) (fun _ _ _ h => h) (.inr ⟨by rfl, rfl, fun _ _ _ => trivial⟩) hS ?_
          simp only [Act.put, List.getElem_toArray, List.getElem_cons_zero, List.getElem_cons_succ, List.setIfInBounds_toArray, List.set_cons_zero, List.set_cons_succ]
          refine anyH_list #[false, true, true, true, true, true, true, true, true, false, false, false, false, false, false] (by kernel_rfl) ?_
          refine anyC_take 9 (v := undef) rfl (by kernel_rfl) (by kernel_rfl) (by kernel_rfl) (by kernel_rfl) (fun _ _ _ h => h) (.inr ⟨by rfl, rfl, fun _ _ _ => trivial⟩) hS ?_
          simp only [Act.put, List.getElem_toArray, List.getElem_cons_zero, List.getElem_cons_succ, List.setIfInBounds_toArray, List.set_cons_zero, List.set_cons_succ]
          refine anyH_list #[false, true, true, true, true, true, true, true, true, true, false, false, false, false, false] (by kernel_rfl) ?_
          refine anyC_take 10 (v := undef) rfl (by kernel_rfl) (by kernel_rfl) (by kernel_rfl) (by kernel_rfl) (fun _ _ _ h => h) (.inr ⟨by rfl, rfl, fun _ _ _ => trivial⟩) hS ?_
          simp only [Act.put, List.getElem_toArray, List.getElem_cons_zero, List.getElem_cons_succ, List.setIfInBounds_toArray, List.set_cons_zero, List.set_cons_succ]
          refine anyH_list #[false, true, true, true, true, true, true, true, true, true, true, false, false, false, false] (by kernel_rfl) ?_
          refine anyC_take 11 (v := (.bool false)) rfl (by kernel_rfl) (by kernel_rfl) (by kernel_rfl) (by kernel_rfl) (fun _ _ _ h => h) (.inl ⟨by rfl, fun X hX => ⟨fun _ _ => trivial, .inl ?_⟩⟩) hS ?_
          · go_simp
          simp only [Act.put, List.getElem_toArray, List.getElem_cons_zero, List.getElem_cons_succ, List.setIfInBounds_toArray, List.set_cons_zero, List.set_cons_succ]
          refine anyH_list #[false, true, true, true, true, true, true, true, true, true, true, true, false, false, false] (by kernel_rfl) ?_
          refine anyC_take 12 (v := (.bool false)) rfl (by kernel_rfl) (by kernel_rfl) (by kernel_rfl) (by kernel_rfl) (fun _ _ _ h => h) (.inl ⟨by rfl, fun X hX => ⟨fun _ _ => trivial, .inl ?_⟩⟩) hS ?_
          · go_simp
          simp only [Act.put, List.getElem_toArray, List.getElem_cons_zero, List.getElem_cons_succ, List.setIfInBounds_toArray, List.set_cons_zero, List.set_cons_succ]
          refine anyH_list #[false, true, true, true, true, true, true, true, true, true, true, true, true, false, false] (by kernel_rfl) ?_
          refine anyH_one 0 (by kernel_rfl) rfl fun K hK => ?_
          go_simp
          refine hK _ _ hS ?_
          clear hK K
          refine anyH_list #[true, true, true, true, true, true, true, true, true, true, true, true, true, false, false] (by kernel_rfl) ?_
          refine anyH_one 13 (by kernel_rfl) rfl fun K hK => ?_
          go_simp
          refine ⟨trivial, rfl, (CallsIn.inRound ll (callsIn_wide.2 (c3 false))).mono ?_⟩
          rintro e w3 ⟨v', rfl, hr3, hG⟩
          obtain ⟨nt, hnt⟩ : ∃ nt, canL p pre ++ putL false x = nt := ⟨_, rfl⟩
          rw [hnt] at hr3
          have HN := Lib.hid hnt
          clear hnt
          obtain ⟨q3, cc3, rfl, _⟩ := row_open hr3
          obtain ⟨hv1, hv2, hr2, hkk⟩ := grown_keep (S := fun b => RB b ∨ Pv b) hbx (by decide) hrow (fun h => h.elim hRn (hnP _ (by omega))) hvn hr3 hG
          have hS3 := ((hG.1 (fun b => b = w.heap.size) (fun b hb h => by have := (hrow.lt b hb).1; omega)).boxed hbp rfl).cell
          have hS4 := (hkk.boxed hbp (.inl (hRo _ (by omega)))).cell
          have hc1 := hv1.cell
          have hf1 := hv1.frozen
          refine hK _ _ hS3 ?_
          clear hK K
          refine anyH_list #[true, true, true, true, true, true, true, true, true, true, true, true, true, true, false] (by kernel_rfl) ?_
          refine anyH_one 14 (by kernel_rfl) rfl fun K hK => ?_
          go_simp
          refine hK _ _ hS4 ?_
          clear hK K
          refine anyH_done (by kernel_rfl) ?_ _
          clear hS3 hc1 hf1 c1 c2 c3
          gi_wp2
          refine ⟨(hkd _).trans hkk, _, hv2, ?_, fun b hb => hge b hb, fun b hb hp => ?_, hKd.trans (hkk.mono fun b _ h => .inl h)⟩
          · rw [can_one, HC.out, HN.out]; exact hr2
          · rcases hG.2 b hb with h | h
            · exact hnv b h hp
            · have h5 := hPl2 _ hp; omega
      · have HC := Lib.hid (show canB p (x, cd) = true by rw [hcb]; rfl)
        clear hcb
        refine anyC_take 1 (v := (.int .u8 (x.toNat : Int))) rfl (by kernel_rfl) (by kernel_rfl) (by kernel_rfl) (by kernel_rfl) (fun _ _ _ h => h) (.inl ⟨by rfl, fun X hX => ⟨fun _ _ => trivial, .inl ?_⟩⟩) hS ?_
        · go_simp
        simp only [Act.put, List.getElem_toArray, List.getElem_cons_zero, List.getElem_cons_succ, List.setIfInBounds_toArray, List.set_cons_zero, List.set_cons_succ]
        refine anyH_list #[false, true, false, false, false, false, false, false, false, false, false, false, false, false, false] (by kernel_rfl) ?_
        refine anyC_take 2 (v := (.int .u8 (x.toNat : Int))) rfl (by kernel_rfl) (by kernel_rfl) (by kernel_rfl) (by kernel_rfl) (fun _ _ _ h => h) (.inl ⟨by rfl, fun X hX => ⟨fun _ _ => trivial, .inl ?_⟩⟩) hS ?_
        · go_simp
        simp only [Act.put, List.getElem_toArray, List.getElem_cons_zero, List.getElem_cons_succ, List.setIfInBounds_toArray, List.set_cons_zero, List.set_cons_succ]
        refine anyH_list #[false, true, true, false, false, false, false, false, false, false, false, false, false, false, false] (by kernel_rfl) ?_
        refine anyC_take 3 (v := (.bool true)) rfl (by kernel_rfl) (by kernel_rfl) (by kernel_rfl) (by kernel_rfl) (fun _ _ _ h => h) (.inl ⟨by rfl, fun X hX => ⟨fun _ _ => trivial, .inr ⟨57, #[.int .u8 (x.toNat : Int)], ?_, (fun h => by cases h), (CallsIn.inRound ll (callsIn_wide.2 (c1 X))).mono (fun _ _ h => ⟨h.1, h.2.symm⟩)⟩⟩⟩) hS ?_
        · go_simp
        simp only [Act.put, List.getElem_toArray, List.getElem_cons_zero, List.getElem_cons_succ, List.setIfInBounds_toArray, List.set_cons_zero, List.set_cons_succ]
        refine anyH_list #[false, true, true, true, false, false, false, false, false, false, false, false, false, false, false] (by kernel_rfl) ?_
        refine anyC_take 4 (v := (.bool true)) rfl (by kernel_rfl) (by kernel_rfl) (by kernel_rfl) (by kernel_rfl) (fun _ _ _ h => h) (.inl ⟨by rfl, fun X hX => ⟨fun _ _ => trivial, .inl ?_⟩⟩) hS ?_
        · go_simp
        simp only [Act.put, List.getElem_toArray, List.getElem_cons_zero, List.getElem_cons_succ, List.setIfInBounds_toArray, List.set_cons_zero, List.set_cons_succ]
        refine anyH_list #[false, true, true, true, true, false, false, false, false, false, false, false, false, false, false] (by kernel_rfl) ?_
        refine anyC_take 5 (v := undef) rfl (by kernel_rfl) (by kernel_rfl) (by kernel_rfl) (by kernel_rfl) (fun _ _ _ h => h) (.inr ⟨by rfl, rfl, fun _ _ _ => trivial⟩) hS ?_
        simp only [Act.put, List.getElem_toArray, List.getElem_cons_zero, List.getElem_cons_succ, List.setIfInBounds_toArray, List.set_cons_zero, List.set_cons_succ]
        refine anyH_list #[false, true, true, true, true, true, false, false, false, false, false, false, false, false, false] (by kernel_rfl) ?_
        refine anyC_take 6 (v := undef) rfl (by kernel_rfl) (by kernel_rfl) (by kernel_rfl) (by kernel_rfl) (fun _ _ _ h => h) (.inr ⟨by rfl, rfl, fun _ _ _ => trivial⟩) hS ?_
        simp only [Act.put, List.getElem_toArray, List.getElem_cons_zero, List.getElem_cons_succ, List.setIfInBounds_toArray, List.set_cons_zero, List.set_cons_succ]
        refine anyH_list #[false, true, true, true, true, true, true, false, false, false, false, false, false, false, false] (by kernel_rfl) ?_
        refine anyC_take 7 (v := undef) rfl (by kernel_rfl) (by kernel_rfl) (by kernel_rfl) (by kernel_rfl) (fun _ _ _ h => h) (.inr ⟨by rfl, rfl, fun _ _ _ => trivial⟩) hS ?_
        simp only [Act.put, List.getElem_toArray, List.getElem_cons_zero, List.getElem_cons_succ, List.setIfInBounds_toArray, List.set_cons_zero, List.set_cons_succ]
        refine anyH_list #[false, true, true, true, true, true, true, true, false, false, false, false, false, false, false] (by kernel_rfl) ?_
        refine anyC_take 8 (v := undef) rfl (by kernel_rfl) (by kernel_rfl) (by kernel_rfl) (by kernel_rfl) (fun _ _ _ h => h) (.inr ⟨by rfl, rfl, fun _ _ _ => trivial⟩) hS ?_
        simp only [Act.put, List.getElem_toArray, List.getElem_cons_zero, List.getElem_cons_succ, List.setIfInBounds_toArray, List.set_cons_zero, List.set_cons_succ]
        refine anyH_list #[false, true, true, true, true, true, true, true, true, false, false, false, false, false, false] (by kernel_rfl) ?_
        refine anyC_take 9 (v := undef) rfl (by kernel_rfl) (by kernel_rfl) (by kernel_rfl) (by kernel_rfl) (fun _ _ _ h => h) (.inr ⟨by rfl, rfl, fun _ _ _ => trivial⟩) hS ?_
        simp only [Act.put, List.getElem_toArray, List.getElem_cons_zero, List.getElem_cons_succ, List.setIfInBounds_toArray, List.set_cons_zero, List.set_cons_succ]
        refine anyH_list #[false, true, true, true, true, true, true, true, true, true, false, false, false, false, false] (by kernel_rfl) ?_
        refine anyC_take 10 (v := undef) rfl (by kernel_rfl) (by kernel_rfl) (by kernel_rfl) (by kernel_rfl) (fun _ _ _ h => h) (.inr ⟨by rfl, rfl, fun _ _ _ => trivial⟩) hS ?_
        simp only [Act.put, List.getElem_toArray, List.getElem_cons_zero, List.getElem_cons_succ, List.setIfInBounds_toArray, List.set_cons_zero, List.set_cons_succ]
        refine anyH_list #[false, true, true, true, true, true, true, true, true, true, true, false, false, false, false] (by kernel_rfl) ?_
        refine anyC_take 11 (v := undef) rfl (by kernel_rfl) (by kernel_rfl) (by kernel_rfl) (by kernel_rfl) (fun _ _ _ h => h) (.inr ⟨by rfl, rfl, fun _ _ _ => trivial⟩) hS ?_
        simp only [Act.put, List.getElem_toArray, List.getElem_cons_zero, List.getElem_cons_succ, List.setIfInBounds_toArray, List.set_cons_zero, List.set_cons_succ]
        refine anyH_list #[false, true, true, true, true, true, true, true, true, true, true, true, false, false, false] (by kernel_rfl) ?_
        refine anyC_take 12 (v := (.bool true)) rfl (by kernel_rfl) (by kernel_rfl) (by kernel_rfl) (by kernel_rfl) (fun _ _ _ h => h) (.inl ⟨by rfl, fun X hX => ⟨fun _ _ => trivial, .inl ?_⟩⟩) hS ?_
        · go_simp
        simp only [Act.put, List.getElem_toArray, List.getElem_cons_zero, List.getElem_cons_succ, List.setIfInBounds_toArray, List.set_cons_zero, List.set_cons_succ]
        refine anyH_list #[false, true, true, true, true, true, true, true, true, true, true, true, true, false, false] (by kernel_rfl) ?_
        refine anyH_one 0 (by kernel_rfl) rfl fun K hK => ?_
        go_simp
        refine hK _ _ hS ?_
        clear hK K
        refine anyH_list #[true, true, true, true, true, true, true, true, true, true, true, true, true, false, false] (by kernel_rfl) ?_
        refine anyH_one 13 (by kernel_rfl) rfl fun K hK => ?_
        go_simp
        refine ⟨trivial, rfl, (CallsIn.inRound ll (callsIn_wide.2 (c3 true))).mono ?_⟩
        rintro e w3 ⟨v', rfl, hr3, hG⟩
        obtain ⟨nt, hnt⟩ : ∃ nt, canL p pre ++ putL true x = nt := ⟨_, rfl⟩
        rw [hnt] at hr3
        have HN := Lib.hid hnt
        clear hnt
        obtain ⟨q3, cc3, rfl, _⟩ := row_open hr3
        obtain ⟨hv1, hv2, hr2, hkk⟩ := grown_keep (S := fun b => RB b ∨ Pv b) hbx (by decide) hrow (fun h => h.elim hRn (hnP _ (by omega))) hvn hr3 hG
        have hS3 := ((hG.1 (fun b => b = w.heap.size) (fun b hb h => by have := (hrow.lt b hb).1; omega)).boxed hbp rfl).cell
        have hS4 := (hkk.boxed hbp (.inl (hRo _ (by omega)))).cell
        have hc1 := hv1.cell
        have hf1 := hv1.frozen
        refine hK _ _ hS3 ?_
        clear hK K
        refine anyH_list #[true, true, true, true, true, true, true, true, true, true, true, true, true, true, false] (by kernel_rfl) ?_
        refine anyH_one 14 (by kernel_rfl) rfl fun K hK => ?_
        go_simp
        refine hK _ _ hS4 ?_
        clear hK K
        refine anyH_done (by kernel_rfl) ?_ _
        clear hS3 hc1 hf1 c1 c2 c3
        gi_wp2
        refine ⟨(hkd _).trans hkk, _, hv2, ?_, fun b hb => hge b hb, fun b hb hp => ?_, hKd.trans (hkk.mono fun b _ h => .inl h)⟩
        · rw [can_one, HC.out, HN.out]; exact hr2
        · rcases hG.2 b hb with h | h
          · exact hnv b h hp
          · have h5 := hPl2 _ hp; omega
    case done =>
      rintro D Pv Wd hD hPD hPl ⟨v, hbx, hrow, hge, hnv, hKW⟩ hK
      have cB := hbx.cell
      clear b0 b1 own0 hb0
      gi_wp2
      refine ⟨by simp, .inl ⟨_, _, rfl, run_takeDeferred hK, ?_⟩⟩
      refine ⟨_, results_tmp2 rfl _ _ _, v, 0, rfl, Lib.hid (by rw [HM.out]; rfl), ?_, ?_⟩
      · rw [HM.out]
        exact row_base ((Keep.putObj (S := fun b => ¬ Pv b) Wd D _ (fun h => h hPD)).row hrow hnv) (by omega)
      · exact (((((hkp (fun b => b < w.heap.size)).trans (hk0 _)).trans (hKW.mono fun b _ h => hRo b (by omega)))).trans (Keep.putObj _ _ _ (by omega))).below (Nat.le_refl _)
    case stop =>
      rintro D c pre rest Pv Wd _ _ _ _ h _
      exact h.elim

end Go.Proofs.YtajojgimbagjoaaGreatDoor.Pct

namespace Go.Proofs.YtajojgimbagjoaaGreatDoor.Pct
open Go.RowKit Go.Shelf

theorem strOfNums_numsL (x : List UInt8) : strOfNums (Lib.numsL x) = ⟨x.toArray⟩ := by
  unfold strOfNums
  rw [show (Lib.numsL x).map (fun n => UInt8.ofNat n.toNat) = x from Lib.bytesOf_numsL x]
theorem conv_bytes {W : World} {q : Option Addr} {n c : Nat} {l : List UInt8} (h : Lib.BytesIn W q n (Lib.numsL l)) (hl : l.length = n) : (convert 22 9 (.slice q n c)).run Tryz.prog W = .ok (.string ⟨l.toArray⟩) W := by
  have h := h.convert (P := Tryz.prog) (by rw [Lib.numsL_length, hl]) c 22 5 9 Tryz.underlying22 Tryz.underlying5 Tryz.underlying9
  rwa [strOfNums_numsL] at h

/-- Items, as they lie. -/
def ItIn (W : World) (q : Option Addr) (n : Nat) (m : List (UInt8 × Bool)) : Prop :=
  m.length = n ∧ (0 < n → ∃ g, q = some ⟨g, 0, none⟩ ∧ g < W.heap.size ∧ ∀ i x, m[i]? = some x → W.cell? ⟨g, i * 2, none⟩ = some (.int .u8 (x.1.toNat : Int)) ∧ W.cell? ⟨g, i * 2 + 1, none⟩ = some (.bool x.2))
theorem itV_get : ∀ (m : List (UInt8 × Bool)) (i : Nat) (x : UInt8 × Bool), m[i]? = some x → (itV m)[i * 2]? = some (.int .u8 (x.1.toNat : Int)) ∧ (itV m)[i * 2 + 1]? = some (.bool x.2)
  | [], i, x, h => by simp at h
  | y :: r, 0, x, h => by
    simp at h; subst h
    exact ⟨rfl, rfl⟩
  | y :: r, i + 1, x, h => by
    have h' : r[i]? = some x := by simpa using h
    obtain ⟨h1, h2⟩ := itV_get r i x h'
    have hv : itV (y :: r) = .int .u8 (y.1.toNat : Int) :: .bool y.2 :: itV r := rfl
    rw [hv, show (i + 1) * 2 = i * 2 + 1 + 1 from by omega]
    exact ⟨by simpa using h1, by simpa using h2⟩
theorem itV_len (m : List (UInt8 × Bool)) : (itV m).length = m.length * 2 := by
  induction m with
  | nil => rfl
  | cons y r ih => 
    have hv : itV (y :: r) = .int .u8 (y.1.toNat : Int) :: .bool y.2 :: itV r := rfl
    rw [hv, List.length_cons, List.length_cons, ih, List.length_cons]; omega
theorem item_open {W : World} {base : Nat} {v : Value} {m : List (UInt8 × Bool)} (h : W.ownsRow base 76 2 v m.length (itV m)) :
    ∃ q c, v = .slice q m.length c ∧ m.length ≤ c ∧ ItIn W q m.length m := by
  rcases h.2 with ⟨rfl, hm⟩ | ⟨g, cap, cur, rfl, hb, hg, h1, h2, h3, h4⟩
  · have hz : m.length = 0 := by assumption
    rw [hz]
    exact ⟨none, 0, rfl, Nat.le_refl _, hz, fun h => absurd h (by omega)⟩
  · refine ⟨some ⟨g, 0, none⟩, cap, rfl, h1, rfl, fun _ => ⟨g, rfl, (Array.getElem?_eq_some_iff.1 hg).1, fun i x hx => ?_⟩⟩
    have hi : i < m.length := (List.getElem?_eq_some_iff.1 hx).1
    obtain ⟨e1, e2⟩ := itV_get m i x hx
    have hc : ∀ j u, j < m.length * 2 → (itV m)[j]? = some u → cur[j]? = some u := fun j u hj hu => by
      rw [← h4, List.getElem?_take, if_pos hj] at hu
      simpa using hu
    simp only [World.cell?, hg]
    exact ⟨hc _ _ (by omega) e1, hc _ _ (by omega) e2⟩
theorem ItIn.keep {S : Nat → Prop} {w w' : World} {q : Option Addr} {n : Nat} {m : List (UInt8 × Bool)} (h : ItIn w q n m) (hk : Keep S w w') (hS : ∀ g, g < w.heap.size → S g) : ItIn w' q n m := by
  refine ⟨h.1, fun h0 => ?_⟩
  obtain ⟨g, hq, hg, hc⟩ := h.2 h0
  have hb := hk.block g hg (hS g hg)
  have hcell : ∀ j, w'.cell? ⟨g, j, none⟩ = w.cell? ⟨g, j, none⟩ := fun j => by simp only [World.cell?, hb]
  exact ⟨g, hq, Nat.lt_of_lt_of_le hg hk.size, fun i x hx => by rw [hcell, hcell]; exact hc i x hx⟩
theorem ItIn.below {w w' : World} {q : Option Addr} {n : Nat} {m : List (UInt8 × Bool)} (h : ItIn w q n m) (hk : Below w.heap.size w w') : ItIn w' q n m :=
  h.keep (Keep.of_below hk) (fun _ h => h)

theorem dec_snoc (m : List (UInt8 × Bool)) (k : Nat) (x : UInt8 × Bool) (h : m[k]? = some x) : decL (m.take (k + 1)) = decL (m.take k) ++ [x.1] := by
  obtain ⟨hk, hx⟩ := List.getElem?_eq_some_iff.1 h
  rw [List.take_succ_eq_append_getElem hk, hx]
  simp [decL]
theorem cell_one_at (w : World) (x : Value) (t : TypeId) (n : Nat) (hn : n = w.heap.size) : ∀ j u, [x][j]? = some u → (w.alloc (.cells #[x] t)).cell? ((⟨n, 0, none⟩ : Addr).add j) = some u := by
  subst hn; exact cell_one_new w x t

end Go.Proofs.YtajojgimbagjoaaGreatDoor.Pct

namespace Go.Proofs.YtajojgimbagjoaaGreatDoor
open Go.RowKit Go.Shelf

theorem lives_lines : linesL [97, 13, 10, 98] = [[97], [98]] := by decide +kernel
theorem lives_tok : tokL [97, 45, 98] = true := by decide +kernel

/-- The example's text, laid; its bytes. -/
theorem bytes_lit {w : World} (cs : Array Value) (l : List UInt8) (fr : Nat × Nat) (h : cs.toList = (Lib.numsL l).map (Value.int .u8)) : Lib.BytesIn (w.alloc (.cells cs 5 fr)) (some ⟨w.heap.size, 0, none⟩) l.length (Lib.numsL l) := fun _ =>
  ⟨_, _, rfl, fun i hi => by
    have hi' : i < (Lib.numsL l).length := by rw [Lib.numsL_length]; exact hi
    rw [Nat.zero_add, World.cell?_alloc_mark, ← Array.getElem?_toList, h]
    simp [List.getElem?_eq_getElem hi', List.getD]⟩
theorem strs_lit {w : World} (cs : Array Value) (l : List (List UInt8)) (h : cs.toList = l.map strV) : StrsIn (w.alloc (.cells cs 9)) (some ⟨w.heap.size, 0, none⟩) l.length l := fun _ =>
  ⟨_, _, rfl, fun i hi => by
    rw [Nat.zero_add, World.cell?_alloc_mark, ← Array.getElem?_toList, h]
    simp [List.getElem?_eq_getElem hi, List.getD]⟩
theorem strs_keep {S : Nat → Prop} {w w' : World} {q : Option Addr} {n : Nat} {xs : List (List UInt8)} (h : StrsIn w q n xs) (hk : Keep S w w') (hq : ∀ a, q = some a → 0 < n → S a.block) : StrsIn w' q n xs := fun h0 => by
  obtain ⟨b, o, rfl, hc⟩ := h h0
  exact ⟨b, o, rfl, fun i hi => (World.cell?_of_block (hk.block b (World.block_lt_of_cell? w _ (hc i hi)) (hq _ rfl h0))).trans (hc i hi)⟩

end Go.Proofs.YtajojgimbagjoaaGreatDoor

namespace Go.Proofs.YtajojgimbagjoaaGreatDoor
open Go.RowKit Go.Shelf

/-- The pieces of a text, out of their bounds. -/
def piecesOf (l : List UInt8) (xs : List (Nat × Nat)) : List (List UInt8) := xs.map fun x => sub l x.1 x.2
theorem piecesOf_snoc (l : List UInt8) (pre : List (Nat × Nat)) (x : Nat × Nat) : piecesOf l (pre ++ [x]) = piecesOf l pre ++ [sub l x.1 x.2] := by simp [piecesOf]
theorem sub_snoc (l : List UInt8) (f k : Nat) (hf : f ≤ k) (hk : k < l.length) : sub l f (k + 1) = sub l f k ++ [l.getD k 0] := by
  unfold sub
  rw [show k + 1 - f = (k - f) + 1 from by omega, List.take_succ_eq_append_getElem (by simp; omega)]
  simp [List.getD, List.getElem?_eq_getElem hk]
  congr 1
  omega
theorem sub_nil (l : List UInt8) (k : Nat) : sub l k k = [] := by unfold sub; simp

theorem ba_app (x s : ByteArray) (k : Nat) (h : k < s.size) : (x ++ s.extract k (k + 1)).data.toList = x.data.toList ++ [s[k]] := by
  rw [ByteArray.data_append, ByteArray.data_extract, Array.toList_append, Array.toList_extract]
  congr 1
  rw [ba_get s k h]
  have h' : k < s.data.toList.length := h
  simp [List.extract, List.getD, List.getElem?_eq_getElem h', List.take_one, List.head?_drop]

set_option maxRecDepth 100000 in
set_option maxHeartbeats 2000000 in
theorem refSplit_any (c : UInt8) (s : ByteArray) (w : World) (hs : s.size ≤ 1099511627775) :
    Calls Tryz.prog 34 #[.string s, .int .u8 (c.toNat : Int)] w fun e w' => ∃ v, e = .returned v ∧ w'.ownsRow w.heap.size 9 1 v (piecesOf s.data.toList (spansL (isB c) s.data.toList)).length ((piecesOf s.data.toList (spansL (isB c) s.data.toList)).map strV) ∧ Below w.heap.size w w' := by
  obtain ⟨i0, hi0, hz0, hz1, hz2⟩ := info_parts info_str
  have hl := ba_len s
  go_enter Tryz.func34, Tryz.ntmps34
  go_wp2
  go_loopw [5, 6, 7] (fun o a i wr => ∃ k f : Nat, ∃ pre : List (Nat × Nat), ∃ x : ByteArray, k ≤ s.size ∧ f ≤ k ∧ pre.length ≤ k ∧ i = .int .i64 k ∧ a = .string x ∧ Hid (x.data.toList = sub s.data.toList f k) ∧ Hid (spansL (isB c) s.data.toList = pre ++ spansGo (isB c) (s.data.toList.drop k) k f) ∧
    wr.ownsRow w.heap.size 9 1 o pre.length ((piecesOf s.data.toList pre).map strV) ∧ Below w.heap.size w wr) (fun _ _ i _ => s.size - (intOf i).toNat)
  case atStart =>
    exact ⟨0, 0, [], ⟨#[]⟩, Nat.zero_le _, Nat.zero_le _, Nat.zero_le _, rfl, rfl, rfl, rfl, World.ownsRow_made w #[] 0 (Nat.le_refl _) (Nat.zero_le _) rfl, (Below.refl _ _).alloc (Nat.le_refl _) _⟩
  case round =>
    obtain ⟨k, f, pre, x, hk, hf, hpk, rfl, rfl, HX, HS, hrow, hbel⟩ := hrel
    have hbl := hbel.size
    by_cases hlt : k < s.size
    · have hck := u8_lt s[k]
      have hcc := u8_lt c
      have hdc := drop_cons s.data.toList k (by omega)
      rw [← ba_get s k hlt] at hdc
      by_cases he : s[k] = c
      · have e1 : (((s[k].toNat : Nat) : Int) == (c.toNat : Int)) = true := by rw [beq_iff_eq, he]
        have HS2 := Lib.hid (show spansL (isB c) s.data.toList = (pre ++ [(f, k)]) ++ spansGo (isB c) (s.data.toList.drop (k + 1)) (k + 1) (k + 1) by
          rw [HS.out, hdc, List.append_assoc]; conv => lhs; unfold spansGo; rw [if_pos (by unfold isB; rw [beq_iff_eq]; exact he)]
          rfl)
        have HP := Lib.hid (piecesOf_snoc s.data.toList pre (f, k))
        have HV := Lib.hid (show strV (sub s.data.toList f k) = .string x by unfold strV; rw [← HX.out])
        clear hdc he HS hl HX
        go_wp2_with (at_builtin; refine wpList_append_own _ rfl _ _ 68 rfl w.heap.size 9 i0 (.string ByteArray.empty) 1 16 Tryz.underlying68 hi0 hz0 hz1 hz2 rfl (by decide) _ _ _ rfl (hrow.alloc _) ⟨wr.heap.size, 0, none⟩ 1 1 [.string x] rfl rfl (cell_one_new _ _ _) (by simp [Value.oneCell']) (by unfold maxLen; omega) (by omega) (by simp; omega) ?_; intro v' w1 hown' hgrow _)
        have hb1 : Below w.heap.size wr w1 := ((Below.refl _ wr).alloc hbl _).grown hgrow (by simp; omega) (fun b hb => (hrow.lt b hb).1)
        go_roundw
        case rel =>
          refine ⟨k + 1, k + 1, pre ++ [(f, k)], ⟨#[]⟩, by omega, Nat.le_refl _, by simp; omega, by go_num, rfl, ?_, HS2, ?_, hbel.trans hb1⟩
          · show [] = _; rw [sub_nil]
          · rw [HP.out, List.map_append, List.length_append]
            show w1.ownsRow _ _ _ _ _ (_ ++ [strV (sub s.data.toList f k)])
            rw [HV.out]
            exact hown'
        case measure => simp [intOf]; omega
      · have e1 : (((s[k].toNat : Nat) : Int) == (c.toNat : Int)) = false := by
          rw [beq_eq_false_iff_ne]; intro h; exact he (UInt8.toNat_inj.1 (by omega))
        have HS2 := Lib.hid (show spansL (isB c) s.data.toList = pre ++ spansGo (isB c) (s.data.toList.drop (k + 1)) (k + 1) f by rw [HS.out, hdc]; conv => lhs; unfold spansGo; rw [if_neg (by unfold isB; rw [beq_iff_eq]; exact he)])
        have hxs : x.size = k - f := by rw [← ba_len, HX.out, sub_length _ _ _ (by rw [ba_len]; omega)]
        have hx1 : ¬ 9223372036854775807 < x.size + (min (k + 1) s.size - k) := by omega
        have HX2 := Lib.hid (show (x ++ s.extract k (k + 1)).data.toList = sub s.data.toList f (k + 1) by rw [ba_app x s k hlt, HX.out, sub_snoc _ _ _ hf (by rw [ba_len]; omega), ba_get s k hlt])
        clear hdc he HS hl HX hxs
        go_wp2
        go_roundw
        case rel => exact ⟨k + 1, f, pre, _, by omega, by omega, by omega, by go_num, rfl, HX2, HS2, hrow, hbel⟩
        case measure => simp [intOf]; omega
    · have HS2 := Lib.hid (show spansL (isB c) s.data.toList = pre ++ [(f, s.size)] by rw [HS.out, List.drop_of_length_le (by omega), show k = s.size by omega]; rfl)
      have HP := Lib.hid (piecesOf_snoc s.data.toList pre (f, s.size))
      have HV := Lib.hid (show strV (sub s.data.toList f s.size) = .string x by unfold strV; rw [show s.size = k by omega, ← HX.out])
      clear HS hl HX
      go_wp2_with (at_builtin; refine wpList_append_own _ rfl _ _ 68 rfl w.heap.size 9 i0 (.string ByteArray.empty) 1 16 Tryz.underlying68 hi0 hz0 hz1 hz2 rfl (by decide) _ _ _ rfl (hrow.alloc _) ⟨wr.heap.size, 0, none⟩ 1 1 [.string x] rfl rfl (cell_one_new _ _ _) (by simp [Value.oneCell']) (by unfold maxLen; omega) (by omega) (by simp; omega) ?_; intro v' w1 hown' hgrow _)
      have hb1 : Below w.heap.size wr w1 := ((Below.refl _ wr).alloc hbl _).grown hgrow (by simp; omega) (fun b hb => (hrow.lt b hb).1)
      go_ret
      refine ⟨_, rfl, ?_, hbel.trans hb1⟩
      rw [HS2.out, HP.out, List.map_append, List.length_append]
      show w1.ownsRow _ _ _ _ _ (_ ++ [strV (sub s.data.toList f s.size)])
      rw [HV.out]
      simp only [piecesOf, List.length_map] at hown' ⊢
      exact hown'

end Go.Proofs.YtajojgimbagjoaaGreatDoor

namespace Go.Proofs.YtajojgimbagjoaaGreatDoor.Pct
open Go.RowKit Go.Shelf

theorem can_snoc (p : Int) (m : List (UInt8 × Bool)) (k : Nat) (x : UInt8 × Bool) (h : m[k]? = some x) : canL p (m.take (k + 1)) = canL p (m.take k) ++ putL (canB p x) x.1 := by
  obtain ⟨hk, hx⟩ := List.getElem?_eq_some_iff.1 h
  rw [List.take_succ_eq_append_getElem hk, hx]
  unfold canL
  rw [List.flatMap_append]
  congr 1
  simp
theorem bytes_lit {w : World} (cs : Array Value) (l : List UInt8) (fr : Nat × Nat) (h : cs.toList = (Lib.numsL l).map (Value.int .u8)) : Lib.BytesIn (w.alloc (.cells cs 5 fr)) (some ⟨w.heap.size, 0, none⟩) l.length (Lib.numsL l) := fun _ =>
  ⟨_, _, rfl, fun i hi => by
    have hi' : i < (Lib.numsL l).length := by rw [Lib.numsL_length]; exact hi
    rw [Nat.zero_add, World.cell?_alloc_mark, ← Array.getElem?_toList, h]
    simp [List.getElem?_eq_getElem hi', List.getD]⟩
theorem conv_one (W : World) (b : UInt8) (n : Nat) (hn : n = W.heap.size) : (convert 22 9 (.slice (some ⟨n, 0, none⟩) 1 1)).run Tryz.prog (W.alloc (.cells #[.int .u8 (b.toNat : Int)] 5)) = .ok (.string ⟨#[b]⟩) (W.alloc (.cells #[.int .u8 (b.toNat : Int)] 5)) := by
  subst hn
  exact conv_bytes (bytes_lit (w := W) #[.int .u8 (b.toNat : Int)] [b] (0, 0) rfl) rfl
theorem putT_app (x : ByteArray) (b : UInt8) : (x ++ ⟨#[b]⟩).data.toList = x.data.toList ++ putL true b := by
  rw [ByteArray.data_append, Array.toList_append]; rfl

set_option maxRecDepth 100000 in
set_option maxHeartbeats 8000000 in
theorem refCanon_any (s : ByteArray) (p : Int) (w : World) (hs : s.size ≤ 274877906944) :
    Calls Tryz.prog 21 #[.string s, .int .i64 p] w fun e w' => ∃ x : ByteArray, e = .returned (.tuple #[.string x, .bool (itemsL s.data.toList).isSome]) ∧ Hid (x.data.toList = canL p ((itemsL s.data.toList).getD [])) ∧ Below w.heap.size w w' := by
  have con := Items_any s w hs
  have hml : ((itemsL s.data.toList).getD []).length ≤ 274877906944 := by
    cases h : itemsL s.data.toList with
    | none => simp
    | some m => have := items_len _ _ h; rw [ba_len] at this; simp; omega
  obtain ⟨m, HM⟩ : ∃ m, Hid ((itemsL s.data.toList).getD [] = m) := ⟨_, rfl⟩
  rw [HM.out] at hml
  go_enter Tryz.func21, Tryz.ntmps21
  go_wp2_with fail
  refine con.mono ?_
  rintro e w1 ⟨v, rfl, hr, hb1⟩
  rw [HM.out] at hr
  obtain ⟨q, c, rfl, hnc, hit⟩ := item_open hr
  have hs1 := hb1.size
  clear con hr
  go_wp2
  go_loopw [8, 18] (fun o i wr => ∃ k : Nat, ∃ x : ByteArray, k ≤ m.length ∧ i = .int .i64 k ∧ o = .string x ∧ Hid (x.data.toList = canL p (m.take k)) ∧ Below w1.heap.size w1 wr) (fun _ i _ => m.length - (intOf i).toNat)
  case atStart => exact ⟨0, ⟨#[]⟩, Nat.zero_le _, rfl, rfl, rfl, Below.refl _ _⟩
  case round =>
    obtain ⟨k, x, hk, rfl, rfl, HR, hbr⟩ := hrel
    by_cases hlt : k < m.length
    · have hbs := hbr.size
      obtain ⟨g, rfl, hg, hc⟩ := (hit.below hbr).2 (by omega)
      obtain ⟨y, hy⟩ : ∃ y, m[k]? = some y := ⟨_, List.getElem?_eq_getElem hlt⟩
      obtain ⟨hc1, hc2⟩ := hc k y hy
      have hxs : x.size ≤ 3 * k := by
        rw [← ba_len, HR.out]
        have h1 := can_len p (m.take k)
        have h2 := List.length_take_le k m
        omega
      have hst := can_snoc p m k y hy
      rw [← HR.out] at hst
      obtain ⟨b, cd⟩ := y
      simp only at hst hc1 hc2
      have hbt := u8_lt b
      have hB2 : Below w1.heap.size w1 (wr.alloc (.cells #[.int .u8 (b.toNat : Int), .bool cd] 76)) := hbr.trans ((below_alloc _).mono hbs)
      have c1 := Free_any b
      have c2 := Stands_any b p
      have c3 := fun W => Hex_any b.toNat W hbt
      have hcv := conv_one (wr.alloc (.cells #[.int .u8 (b.toNat : Int), .bool cd] 76)) b (wr.heap.size + 1) (by simp)
      obtain ⟨z1, H1⟩ : ∃ z, Hid (freeB b = z) := ⟨_, rfl⟩
      obtain ⟨z2, H2⟩ : ∃ z, Hid (standsB p b = z) := ⟨_, rfl⟩
      rw [H1.out] at c1
      rw [H2.out] at c2
      have hcb : canB p (b, cd) = (z1 || (!cd && z2)) := by unfold canB; rw [H1.out, H2.out]
      rw [hcb] at hst
      have h12 : z1 = true → z2 = true := fun h => by rw [← H2.out]; exact stands_free p b (by rw [H1.out]; exact h)
      have T := Lib.hid (putT_app x b)
      have F := fun h hh => putF_app x h b hh
      clear hc hy hcb H1 H2 hit
      cases cd
      · cases z2
        · have hz1 : z1 = false := by cases z1; rfl; exact absurd (h12 rfl) (by simp)
          subst hz1
          have HS := Lib.hid hst
          clear hst h12 c1 hcv
          go_wp2_with fail
          refine (c2 _).mono ?_
          rintro e w' ⟨rfl, rfl⟩
          go_wp2_with fail
          refine (c3 _).mono ?_
          rintro e w' ⟨h, rfl, HH, q1, rfl⟩
          have hh3 : h.size ≤ 2 := by rw [← ba_len, HH.out]; exact Nat.le_refl _
          have HB := Lib.hid (F h HH.out)
          clear F c2 c3
          go_wp2
          go_roundw
          case rel => exact ⟨k + 1, _, by omega, by go_num, rfl, Lib.hid (by rw [HS.out]; exact HB.out), hB2.trans ⟨rfl, rfl, rfl, Nat.le_refl _, fun _ _ => rfl⟩⟩
          case measure => simp [intOf]; omega
        · have HS := Lib.hid (show canL p (m.take (k + 1)) = x.data.toList ++ putL true b by rw [hst]; simp)
          clear hst h12 c1 c3 F
          go_wp2_with fail
          refine (c2 _).mono ?_
          rintro e w' ⟨rfl, rfl⟩
          clear c2
          go_wp2
          go_roundw
          case rel => exact ⟨k + 1, _, by omega, by go_num, rfl, Lib.hid (by rw [HS.out]; exact T.out), hB2.trans ((below_alloc _).mono (by simp; omega))⟩
          case measure => simp [intOf]; omega
      · cases z1
        · have HS := Lib.hid (show canL p (m.take (k + 1)) = x.data.toList ++ putL false b by rw [hst]; simp)
          clear hst h12 c2 hcv
          go_wp2_with fail
          refine (c1 _).mono ?_
          rintro e w' ⟨rfl, rfl⟩
          go_wp2_with fail
          refine (c3 _).mono ?_
          rintro e w' ⟨h, rfl, HH, q1, rfl⟩
          have hh3 : h.size ≤ 2 := by rw [← ba_len, HH.out]; exact Nat.le_refl _
          have HB := Lib.hid (F h HH.out)
          clear F c1 c3
          go_wp2
          go_roundw
          case rel => exact ⟨k + 1, _, by omega, by go_num, rfl, Lib.hid (by rw [HS.out]; exact HB.out), hB2.trans ⟨rfl, rfl, rfl, Nat.le_refl _, fun _ _ => rfl⟩⟩
          case measure => simp [intOf]; omega
        · have HS := Lib.hid (show canL p (m.take (k + 1)) = x.data.toList ++ putL true b by rw [hst]; simp)
          clear hst h12 c2 c3 F
          go_wp2_with fail
          refine (c1 _).mono ?_
          rintro e w' ⟨rfl, rfl⟩
          clear c1
          go_wp2
          go_roundw
          case rel => exact ⟨k + 1, _, by omega, by go_num, rfl, Lib.hid (by rw [HS.out]; exact T.out), hB2.trans ((below_alloc _).mono (by simp; omega))⟩
          case measure => simp [intOf]; omega
    · have H := Lib.hid (show x.data.toList = canL p m by rw [HR.out, List.take_of_length_le (by omega)])
      clear hit HR
      go_wp2
      go_ret2
      exact ⟨x, rfl, Lib.hid (by rw [HM.out]; exact H.out), hb1.trans (hbr.mono hs1)⟩

end Go.Proofs.YtajojgimbagjoaaGreatDoor.Pct

namespace Go.Proofs.YtajojgimbagjoaaGreatDoor
open Go.RowKit Go.Shelf

theorem splitOf_len (l : List UInt8) (xs : List (Nat × Nat)) : (splitOf l xs).length = xs.length := by simp [splitOf]
theorem splitX_num (c : UInt8) (l : List UInt8) (pre : List (Nat × List UInt8)) (x : Nat × List UInt8) (rest : List (Nat × List UInt8)) (h : splitX c l = pre ++ x :: rest) : x.1 = pre.length := by
  have h1 : (splitX c l)[pre.length]? = some x := by rw [h]; simp
  unfold splitX splitOf at h1
  rw [List.getElem?_map, List.getElem?_zipIdx] at h1
  cases hx : (spansL (isB c) l)[pre.length]? with
  | none => rw [hx] at h1; simp at h1
  | some y => rw [hx] at h1; simp at h1; rw [← h1]
theorem splitX_pieces (c : UInt8) (l : List UInt8) : (splitX c l).map strN = (piecesOf l (spansL (isB c) l)).map strV := by
  unfold splitX splitOf piecesOf
  simp only [List.map_map]
  apply List.ext_getElem?
  intro i
  simp only [List.getElem?_map, List.getElem?_zipIdx]
  cases (spansL (isB c) l)[i]? <;> rfl
theorem splitX_small (c : UInt8) (l : List UInt8) (n : Nat) (h : l.length = n) : ∀ x ∈ splitX c l, x.2.length ≤ n := by
  intro x hx
  unfold splitX splitOf at hx
  obtain ⟨y, hy, rfl⟩ := List.mem_map.1 hx
  have hb := spansL_bounds (isB c) l y.1 (List.fst_mem_of_mem_zipIdx hy)
  simp only
  rw [sub_length _ _ _ hb.2]
  omega
theorem splitX_len (c : UInt8) (l : List UInt8) : (splitX c l).length ≤ l.length + 1 := by
  unfold splitX
  rw [splitOf_len]
  exact spansGo_len _ _ _ _

theorem Split_iter {w w' : World} {B n : Nat} {c : UInt8} {v' : Value} {l : List UInt8} (hn : n ≤ 140737488355328) (hB : Boxed w' B 22 v') (hBc : Boxed w' w.heap.size 5 (.int .u8 (c.toNat : Int))) (hrow : w'.ownsRow (w.heap.size + 1) 5 1 v' n ((Lib.numsL l).map (Value.int .u8))) :
    IterC Tryz.prog 74 #[.pointer (some ⟨B, 0, none⟩), .pointer (some ⟨w.heap.size, 0, none⟩)] NumRowArg (splitX c l) (fun b => b = B ∨ b = w.heap.size ∨ v'.ownBlock = some b) w' := by
  obtain ⟨q, cc, rfl, hl, hnc, _, hbs, hblk⟩ := row_open hrow
  exact Split1_iter B w.heap.size c q n cc l _ w' hl hn hnc hbs (fun a ha _ => .inr (.inr (hblk a ha).2.2)) hB (.inl rfl) hBc (.inr (.inl rfl)) (fun b hb => by
    rcases hb with rfl | rfl | hb
    · exact hB.lt
    · exact hBc.lt
    · exact (hrow.lt b hb).2)

theorem info_u8 : (Tryz.prog.info? 5).map (fun i => (i.zero, i.size, i.bytes)) = some (some (.int .u8 0), 1, 1) := by kernel_rfl

theorem sameL_self (xs : List (List UInt8)) : sameL xs xs = true := by unfold sameL; simp

/-- 'append(dst, src...)', dst the call's own, src whatever slice of bytes. -/
theorem wpList_append_bytes {ops : Array Oper} {rest : List Oper} {o : Oper} {a : Act} {w : World} {Q : Exit → Act → World → Prop} (hgd : o.guard = none) (s x : Operand)
    (ho : o.op = .call { callee := .builtin .append, args := #[s, x], argTypes := #[22, 22] })
    (base : Nat) (v : Value) (n : Nat) (xs : List Value) (hs : a.eval s = v) (hown : w.ownsRow base 5 1 v n xs) (p : Option Addr) (m c : Nat) (bs : List UInt8) (hx : a.eval x = .slice p m c) (hp : p = none → m = 0 ∧ c = 0)
    (hl : bs.length = m) (hb : Lib.BytesIn w p m (Lib.numsL bs)) (h47 : n + m ≤ 140737488355328) (hbase : base ≤ w.heap.size)
    (h : ∀ v' w', w'.ownsRow base 5 1 v' (n + m) (xs ++ (Lib.numsL bs).map (Value.int .u8)) → w.grownBy w' v.ownBlock → wpList Tryz.prog ops Q rest (a.put o.dst v') w') : wpList Tryz.prog ops Q (o :: rest) a w := by
  obtain ⟨i0, hi0, hz0, hz1, hz2⟩ := info_parts info_u8
  cases p with
  | none =>
    obtain ⟨rfl, rfl⟩ := hp rfl
    obtain rfl : bs = [] := List.eq_nil_of_length_eq_zero hl
    refine wpList_append_own_none hgd s x _ ho base 5 i0 1 Tryz.underlying22 hi0 v n xs hs hown hx (h v w ?_ ⟨rfl, rfl, rfl, Nat.le_refl _, fun _ _ _ => rfl⟩)
    simpa [Lib.numsL] using hown
  | some ad =>
    refine wpList_append_own w hgd s x _ ho base 5 i0 (.int .u8 0) 1 1 Tryz.underlying22 hi0 hz0 hz1 hz2 rfl (by decide) v n xs hs hown ad m c ((Lib.numsL bs).map (Value.int .u8)) hx (by simp [Lib.numsL, hl]) (fun j u hj => ?_) (by simp [Lib.numsL, Value.oneCell']) (by unfold maxLen; omega) (by omega) hbase (fun v' w' h1 h2 _ => h v' w' h1 h2)
    rcases Nat.lt_or_ge j m with h' | h'
    · obtain ⟨b, o, he, hcc⟩ := hb.at (by omega)
      cases he
      have hj' : j < (Lib.numsL bs).length := by rw [Lib.numsL_length]; omega
      rw [Go.WideShapes.add_plain, hcc j h']
      rw [List.getElem?_map, List.getElem?_eq_getElem hj'] at hj
      simp only [Option.map_some, Option.some.injEq] at hj
      rw [← hj, List.getD, List.getElem?_eq_getElem hj']
      rfl
    · rw [List.getElem?_eq_none (by rw [List.length_map, Lib.numsL_length]; omega)] at hj
      cases hj

end Go.Proofs.YtajojgimbagjoaaGreatDoor

namespace Go.Proofs.YtajojgimbagjoaaGreatDoor
open Go.RowKit Go.Shelf

/-- A text with small letters. -/
def lowL (l : List UInt8) : List UInt8 := l.map low
theorem lowL_length (l : List UInt8) : (lowL l).length = l.length := by simp [lowL]
theorem lowL_getD (l : List UInt8) (k : Nat) (h : k < l.length) : (lowL l).getD k 0 = low (l.getD k 0) := by simp [lowL, List.getD, List.getElem?_eq_getElem h]
theorem low_low (b : UInt8) : low (low b) = low b := by
  by_cases h : 65 ≤ b.toNat ∧ b.toNat ≤ 90
  · have h1 := low_hi b h.1 h.2
    exact low_lo (low b) (by omega)
  · rw [low_lo b h]
    exact low_lo b h
theorem lowL_lowL (l : List UInt8) : lowL (lowL l) = lowL l := by
  unfold lowL
  rw [List.map_map]
  apply List.map_congr_left
  intro b _
  exact low_low b

set_option maxRecDepth 100000 in
set_option maxHeartbeats 2000000 in
theorem Lower_any (q : Option Addr) (n c : Nat) (l : List UInt8) (w : World) (hl : l.length = n) (hn : n ≤ 140737488355328) (hb : Lib.BytesIn w q n (Lib.numsL l)) :
    Calls Tryz.prog 30 #[.slice q n c] w fun e w' => ∃ v', e = .returned v' ∧ w'.ownsRow w.heap.size 5 1 v' n ((Lib.numsL (lowL l)).map (Value.int .u8)) ∧ Below w.heap.size w w' := by
  obtain ⟨i0, hi0, hz0, hz1, hz2⟩ := info_parts info_u8
  have HL := Lib.hid hl
  clear hl
  go_enter Tryz.func30, Tryz.ntmps30
  go_wp2_with (at_make; refine wpList_make_full _ rfl _ _ 22 rfl w.heap.size 5 i0 (.int .u8 0) 1 Tryz.underlying22 hi0 hz0 hz1 .i64 .i64 _ _ n rfl rfl rfl rfl (by rw [hz2]; omega) (by unfold maxLen; omega) (Nat.le_refl _) ?_; intro w1 hown hgrow)
  have hbel : Below w.heap.size w w1 := (Below.refl _ _).grown hgrow (Nat.le_refl _) (fun _ h => by cases h)
  obtain ⟨cur0, hg0, hs0⟩ : ∃ cur, w1.heap[w.heap.size]? = some (.cells cur 5 (0, 0)) ∧ cur.size = n := by
    rcases hown.2 with ⟨h1, _⟩ | ⟨g, cap, cur, h1, _, hg, _, _, h3, _⟩
    · cases h1
    · cases h1; exact ⟨cur, hg, by simpa using h3⟩
  clear hown hgrow
  go_loopw [11] (fun i wr => ∃ k : Nat, ∃ cur : Array Value, k ≤ n ∧ i = .int .i64 k ∧ Below w.heap.size w wr ∧ wr.heap[w.heap.size]? = some (.cells cur 5 (0, 0)) ∧ Hid (cur.size = n) ∧ Hid (∀ j, j < k → cur[j]? = some (.int .u8 ((low (l.getD j 0)).toNat : Int)))) (fun i _ => n - (intOf i).toNat)
  case atStart => exact ⟨0, cur0, Nat.zero_le _, rfl, hbel, hg0, hs0, fun j hj => absurd hj (Nat.not_lt_zero _)⟩
  case round =>
    obtain ⟨k, cur, hk, rfl, hbr, hg, HS, HC⟩ := hrel
    by_cases hlt : k < n
    · obtain ⟨b, o, rfl, hc⟩ := hb.at (by omega)
      have hck : wr.cell? ⟨b, o + k, none⟩ = some (.int .u8 ((l.getD k 0).toNat : Int)) := by
        rw [← numsL_getD l k (by rw [HL.out]; exact hlt), ← hc k hlt]
        exact hbr.cell (World.block_lt_of_cell? w _ (hc k hlt))
      have hkc : k < cur.size := by rw [HS.out]; exact hlt
      have hgk : wr.cell? ⟨w.heap.size, k, none⟩ = some cur[k] := by simp [World.cell?, hg, Array.getElem?_eq_getElem hkc]
      have hfk : wr.frozen? ⟨w.heap.size, k, none⟩ = false := by simp [World.frozen?, hg]
      have HG := Lib.hid hg
      obtain ⟨bk, HB⟩ : ∃ bk, Hid (bk = l.getD k 0) := ⟨_, rfl⟩
      rw [← HB.out] at hck
      have hk1 := lowerByte_any bk
      obtain ⟨y, HY⟩ : ∃ y, Hid (y = low bk) := ⟨_, rfl⟩
      rw [← HY.out] at hk1
      clear hc hb hg
      generalize cur[k] = cv at hgk
      go_wp2_with (go_at_call 50; refine (hk1 _).mono ?_; rintro e w' ⟨rfl, rfl⟩)
      go_roundw
      case rel =>
        refine ⟨k + 1, cur.setIfInBounds k (.int .u8 (y.toNat : Int)), by omega, by go_num, hbr.setCell (p := ⟨w.heap.size, k, none⟩) (Nat.le_refl _) _, Joins.block_setCell HG.out _, ?_, fun j hj => ?_⟩
        · show (cur.setIfInBounds k _).size = n
          rw [Array.size_setIfInBounds]; exact HS.out
        · by_cases hjk : j = k
          · subst hjk
            rw [Array.getElem?_setIfInBounds_self_of_lt hkc, HY.out, HB.out]
          · rw [Array.getElem?_setIfInBounds_ne (Ne.symm hjk)]
            exact HC.out j (by omega)
      case measure => simp [intOf]; omega
    · have hkn : k = n := by omega
      have hrow : wr.ownsRow w.heap.size 5 1 (.slice (some ⟨w.heap.size, 0, none⟩) n n) n ((Lib.numsL (lowL l)).map (Value.int .u8)) := by
        refine ⟨by rw [List.length_map, Lib.numsL_length, lowL_length, HL.out, Nat.mul_one], .inr ⟨w.heap.size, n, cur, rfl, Nat.le_refl _, hg, Nat.le_refl _, by unfold maxLen; omega, by rw [HS.out, Nat.mul_one], ?_⟩⟩
        have hcs := HS.out
        have hll := HL.out
        apply List.ext_getElem?
        intro j
        rw [Nat.mul_one, List.take_of_length_le (by rw [Array.length_toList, hcs]; exact Nat.le_refl _), Array.getElem?_toList]
        rcases Nat.lt_or_ge j n with hj | hj
        · have hj' : j < (Lib.numsL (lowL l)).length := by rw [Lib.numsL_length, lowL_length, hll]; exact hj
          have hn1 := numsL_getD (lowL l) j (by rw [lowL_length, hll]; exact hj)
          rw [lowL_getD l j (by rw [hll]; exact hj), List.getD, List.getElem?_eq_getElem hj', Option.getD_some] at hn1
          rw [HC.out j (by omega), List.getElem?_map, List.getElem?_eq_getElem hj', Option.map_some, hn1]
        · rw [Array.getElem?_eq_none (by omega), List.getElem?_eq_none (by rw [List.length_map, Lib.numsL_length, lowL_length, hll]; exact hj)]
      clear HS HC hg hkn
      go_wp2
      go_ret
      exact ⟨_, rfl, hrow, hbr⟩

/-- Equal but for great and small letters. -/
def sameLow (x y : List UInt8) : Bool := decide (lowL x = lowL y)

theorem Same1_any (a b : UInt8) (w : World) : Calls Tryz.prog 63 #[.int .u8 (a.toNat : Int), .int .u8 (b.toNat : Int)] w fun e w' => e = .returned (.bool (isB (low b) (low a))) ∧ w = w' := by
  have h1 := lowerByte_any a
  have h2 := lowerByte_any b
  have hx := u8_lt (low a)
  have hy := u8_lt (low b)
  generalize low a = x at *
  generalize low b = y at *
  have H := Lib.hid (show isB y x = ((x.toNat : Int) == (y.toNat : Int)) by unfold isB; rw [Bool.eq_iff_iff, beq_iff_eq, beq_iff_eq, ← UInt8.toNat_inj]; omega)
  go_enter Tryz.func63, Tryz.ntmps63
  go_wp2_with fail
  refine (h1 _).mono ?_
  rintro e w' ⟨rfl, rfl⟩
  go_wp2_with fail
  refine (h2 _).mono ?_
  rintro e w' ⟨rfl, rfl⟩
  go_wp2
  go_ret
  exact ⟨(by rw [H.out]; try rfl), rfl⟩

set_option maxRecDepth 100000 in
set_option maxHeartbeats 2000000 in
theorem EqualFunc_any (p1 p2 : Option Addr) (n c m d : Nat) (xs ys : List UInt8) (w : World) (hx : xs.length = n) (hy : ys.length = m) (hn : n ≤ 140737488355328) (hm : m ≤ 140737488355328) (h1 : Lib.BytesIn w p1 n (Lib.numsL xs)) (h2 : Lib.BytesIn w p2 m (Lib.numsL ys)) :
    Calls Tryz.prog 62 #[.slice p1 n c, .slice p2 m d, .func (.func 63) #[] #[]] w fun e w' => e = .returned (.bool (sameLow xs ys)) ∧ w = w' := by
  by_cases hnm : n = m
  · subst hnm
    have e0 : ((n : Int) != (n : Int)) = false := by simp
    go_enter Tryz.func62, Tryz.ntmps62
    go_wp2
    go_loop [17] (fun i => ∃ k : Nat, k ≤ n ∧ i = .int .i64 k ∧ Hid (sameLow xs ys = sameLow (xs.drop k) (ys.drop k))) (fun i => n - (intOf i).toNat)
    case atStart => exact ⟨0, Nat.zero_le _, rfl, rfl⟩
    case round =>
      obtain ⟨k, hk, rfl, HR⟩ := hrel
      by_cases hlt : k < n
      · obtain ⟨b1, o1, rfl, hc1⟩ := h1.at (by omega)
        obtain ⟨b2, o2, rfl, hc2⟩ := h2.at (by omega)
        have c1 := hc1 k hlt
        have c2 := hc2 k hlt
        rw [numsL_getD _ _ (by omega)] at c1 c2
        have d1 := drop_cons xs k (by omega)
        have d2 := drop_cons ys k (by omega)
        clear hc1 hc2 h1 h2 e0
        generalize xs.getD k 0 = x at c1 d1
        generalize ys.getD k 0 = y at c2 d2
        have hs := Same1_any x y w
        by_cases hxy : low x = low y
        · have HR2 := Lib.hid (show sameLow xs ys = sameLow (xs.drop (k + 1)) (ys.drop (k + 1)) by rw [HR.out, d1, d2]; unfold sameLow lowL; simp [hxy])
          rw [show isB (low y) (low x) = true from by unfold isB; rw [beq_iff_eq]; exact hxy] at hs
          clear d1 d2 HR hxy
          go_wp2_with (go_at_call 63; refine hs.mono ?_; rintro e w' ⟨rfl, hw⟩; subst hw)
          go_round
          case rel => exact ⟨k + 1, by omega, by go_num, HR2⟩
          case measure => simp [intOf]; omega
        · have H := Lib.hid (show sameLow xs ys = false by rw [HR.out, d1, d2]; unfold sameLow lowL; simp [hxy])
          rw [show isB (low y) (low x) = false from by unfold isB; rw [beq_eq_false_iff_ne]; exact hxy] at hs
          clear d1 d2 HR hxy
          go_wp2_with (go_at_call 63; refine hs.mono ?_; rintro e w' ⟨rfl, hw⟩; subst hw)
          go_ret
          exact ⟨(by rw [H.out]; try rfl), rfl⟩
      · have H := Lib.hid (show sameLow xs ys = true by rw [HR.out, List.drop_of_length_le (by omega), List.drop_of_length_le (by omega)]; rfl)
        clear HR
        go_wp2
        go_ret
        exact ⟨(by rw [H.out]; try rfl), rfl⟩
  · have e0 : ((n : Int) != (m : Int)) = true := by rw [bne_iff_ne]; omega
    have H := Lib.hid (show sameLow xs ys = false by unfold sameLow; rw [decide_eq_false_iff_not]; intro h; apply hnm; rw [← hx, ← hy, ← lowL_length xs, ← lowL_length ys, h])
    go_enter Tryz.func62, Tryz.ntmps62
    go_wp2
    go_ret
    exact ⟨(by rw [H.out]; try rfl), rfl⟩

theorem cutSame_any (p1 p2 : Option Addr) (n c m d : Nat) (xs ys : List UInt8) (w : World) (hx : xs.length = n) (hy : ys.length = m) (hn : n ≤ 140737488355328) (hm : m ≤ 140737488355328) (h1 : Lib.BytesIn w p1 n (Lib.numsL xs)) (h2 : Lib.BytesIn w p2 m (Lib.numsL ys)) :
    Calls Tryz.prog 43 #[.slice p1 n c, .slice p2 m d] w fun e w' => e = .returned (.bool (sameLow xs ys)) ∧ w = w' := by
  have con := EqualFunc_any p1 p2 n c m d xs ys w hx hy hn hm h1 h2
  clear h1 h2
  go_enter Tryz.func43, Tryz.ntmps43
  go_wp2_with (go_at_call 62; refine con.mono ?_; rintro e w' ⟨rfl, rfl⟩)
  go_ret
  exact ⟨rfl, rfl⟩

end Go.Proofs.YtajojgimbagjoaaGreatDoor

namespace Go.Proofs.YtajojgimbagjoaaGreatDoor
open Go.RowKit Go.Shelf

theorem letters_list (b : UInt8) : (inB b [97, 98, 99, 100, 101, 102, 103, 104, 105, 106, 107, 108, 109, 110, 111, 112, 113, 114, 115, 116, 117, 118, 119, 120, 121, 122] || inB b [65, 66, 67, 68, 69, 70, 71, 72, 73, 74, 75, 76, 77, 78, 79, 80, 81, 82, 83, 84, 85, 86, 87, 88, 89, 90]) = letB b := by
  have h : ∀ b : Fin 256, (inB (UInt8.ofNat b.1) [97, 98, 99, 100, 101, 102, 103, 104, 105, 106, 107, 108, 109, 110, 111, 112, 113, 114, 115, 116, 117, 118, 119, 120, 121, 122] || inB (UInt8.ofNat b.1) [65, 66, 67, 68, 69, 70, 71, 72, 73, 74, 75, 76, 77, 78, 79, 80, 81, 82, 83, 84, 85, 86, 87, 88, 89, 90]) = letB (UInt8.ofNat b.1) := by decide +kernel
  have h1 := h ⟨b.toNat, u8_lt b⟩
  rwa [UInt8.ofNat_toNat] at h1

set_option maxHeartbeats 1000000 in
theorem Letter_any (b : UInt8) (w : World) :
    Calls Tryz.prog 35 #[.int .u8 (b.toNat : Int)] w fun e w' => e = .returned (.bool (letB b)) ∧ w = w' := by
  have H := Lib.hid (letters_list b)
  have C1 := fun W => In_any b ⟨#[97, 98, 99, 100, 101, 102, 103, 104, 105, 106, 107, 108, 109, 110, 111, 112, 113, 114, 115, 116, 117, 118, 119, 120, 121, 122]⟩ W (by decide)
  have C2 := fun W => In_any b ⟨#[65, 66, 67, 68, 69, 70, 71, 72, 73, 74, 75, 76, 77, 78, 79, 80, 81, 82, 83, 84, 85, 86, 87, 88, 89, 90]⟩ W (by decide)
  obtain ⟨x1, G1⟩ : ∃ x, Hid (inB b (⟨#[97, 98, 99, 100, 101, 102, 103, 104, 105, 106, 107, 108, 109, 110, 111, 112, 113, 114, 115, 116, 117, 118, 119, 120, 121, 122]⟩ : ByteArray).data.toList = x) := ⟨_, rfl⟩
  obtain ⟨x2, G2⟩ : ∃ x, Hid (inB b (⟨#[65, 66, 67, 68, 69, 70, 71, 72, 73, 74, 75, 76, 77, 78, 79, 80, 81, 82, 83, 84, 85, 86, 87, 88, 89, 90]⟩ : ByteArray).data.toList = x) := ⟨_, rfl⟩
  rw [G1.out] at C1
  rw [G2.out] at C2
  have HX := Lib.hid (show (x1 || x2) = letB b by rw [← G1.out, ← G2.out]; exact H.out)
  clear H G1 G2
  cases x1
  · go_enter Tryz.func35, Tryz.ntmps35
    go_wp2_with fail
    refine (C1 _).mono ?_
    rintro e w' ⟨rfl, rfl⟩
    go_wp2_with fail
    refine (C2 _).mono ?_
    rintro e w' ⟨rfl, rfl⟩
    go_wp2
    go_ret
    exact ⟨(by rw [← HX.out]; try rfl), rfl⟩
  · go_enter Tryz.func35, Tryz.ntmps35
    go_wp2_with fail
    refine (C1 _).mono ?_
    rintro e w' ⟨rfl, rfl⟩
    go_wp2
    go_ret
    exact ⟨(by rw [← HX.out]; try rfl), rfl⟩

theorem all_tok_drop (l : List UInt8) (k : Nat) (h : k < l.length) : (l.drop k).all tokB = ((digitB (l.getD k 0) || letB (l.getD k 0) || inB (l.getD k 0) marksL) && (l.drop (k + 1)).all tokB) := by
  rw [all_drop l k h]
  congr 1
  unfold tokB
  cases letB (l.getD k 0) <;> cases digitB (l.getD k 0) <;> rfl

/-- Ahead of the first b, and behind it. -/
def atI (b : UInt8) (l : List UInt8) : Int := Lib.indexByte l b

theorem index_at : ∀ (l : List UInt8) (c : UInt8) (k : Nat), k < l.length → l.getD k 0 = c → (∀ j, j < k → l.getD j 0 ≠ c) → Lib.indexByte l c = (k : Int)
  | [], _, k, h, _, _ => absurd h (Nat.not_lt_zero k)
  | x :: r, c, 0, _, h, _ => by
    have : x = c := h
    subst this
    simp [Lib.indexByte]
  | x :: r, c, k + 1, h, hk, hj => by
    have hx : x ≠ c := hj 0 (Nat.succ_pos k)
    have ih := index_at r c k (by simpa using h) hk (fun j hjk => hj (j + 1) (by omega))
    unfold Lib.indexByte
    rw [if_neg (by simpa using hx), ih]
    simp
theorem index_no : ∀ (l : List UInt8) (c : UInt8), (∀ j, j < l.length → l.getD j 0 ≠ c) → Lib.indexByte l c = -1
  | [], _, _ => rfl
  | x :: r, c, h => by
    have hx : x ≠ c := h 0 (Nat.succ_pos _)
    have ih := index_no r c (fun j hj => h (j + 1) (by simpa using hj))
    unfold Lib.indexByte
    rw [if_neg (by simpa using hx), ih]
    simp

def atFst (b : UInt8) (l : List UInt8) : List UInt8 := if 0 ≤ Lib.indexByte l b then l.take (Lib.indexByte l b).toNat else l
def atSnd (b : UInt8) (l : List UInt8) : List UInt8 := if 0 ≤ Lib.indexByte l b then l.drop ((Lib.indexByte l b).toNat + 1) else []
def atOk (b : UInt8) (l : List UInt8) : Bool := decide (0 ≤ Lib.indexByte l b)
theorem at_found (b : UInt8) (l : List UInt8) (k : Nat) (h : Lib.indexByte l b = (k : Int)) : atFst b l = l.take k ∧ atSnd b l = l.drop (k + 1) ∧ atOk b l = true := by
  unfold atFst atSnd atOk
  rw [h]
  simp
theorem at_none (b : UInt8) (l : List UInt8) (h : Lib.indexByte l b = -1) : atFst b l = l ∧ atSnd b l = [] ∧ atOk b l = false := by
  unfold atFst atSnd atOk
  rw [h]
  simp
theorem ext_take (s : ByteArray) (k : Nat) : (s.extract 0 k).data.toList = s.data.toList.take k := by
  rw [ByteArray.data_extract, Array.toList_extract]
  simp [List.extract]
theorem ext_drop (s : ByteArray) (k : Nat) : (s.extract k s.size).data.toList = s.data.toList.drop k := by
  rw [ByteArray.data_extract, Array.toList_extract]
  show (s.data.toList.drop k).take (s.size - k) = _
  rw [List.take_of_length_le (by rw [List.length_drop, ba_len]; exact Nat.le_refl _)]

set_option maxHeartbeats 2000000 in
theorem refAt_any (c : UInt8) (s : ByteArray) (w : World) (hs : s.size ≤ 1099511627775) :
    Calls Tryz.prog 17 #[.string s, .int .u8 (c.toNat : Int)] w fun e w' => ∃ x y : ByteArray, e = .returned (.tuple #[.string x, .string y, .bool (atOk c s.data.toList)]) ∧ Hid (x.data.toList = atFst c s.data.toList) ∧ Hid (y.data.toList = atSnd c s.data.toList) ∧ ∃ q, w' = w.drewN q := by
  go_enter Tryz.func17, Tryz.ntmps17
  go_wp2
  go_loop [7] (fun i => ∃ k : Nat, k ≤ s.size ∧ i = .int .i64 k ∧ Hid (∀ j, j < k → s.data.toList.getD j 0 ≠ c)) (fun i => s.size - (intOf i).toNat)
  case atStart => exact ⟨0, Nat.zero_le _, rfl, fun j hj => absurd hj (Nat.not_lt_zero j)⟩
  case round =>
    obtain ⟨k, hk, rfl, HR⟩ := hrel
    by_cases hlt : k < s.size
    · have hck := u8_lt s[k]
      have hcc := u8_lt c
      have hgk := ba_get s k hlt
      have hbl := ba_len s
      by_cases he : s[k] = c
      · have e1 : (((s[k].toNat : Nat) : Int) == (c.toNat : Int)) = true := by rw [beq_iff_eq, he]
        have hx := at_found c s.data.toList k (index_at _ _ _ (by omega) (hgk ▸ he) HR.out)
        have H := Lib.hid hx
        clear hx HR hgk hbl he
        go_wp2_with (go_quiet (fail))
        go_ret3
        refine ⟨s.extract 0 k, s.extract (k + 1) s.size, (by rw [H.out.2.2]; try rfl), ?_, ?_, _, rfl⟩
        · exact Lib.hid (by rw [H.out.1]; exact ext_take s k)
        · exact Lib.hid (by rw [H.out.2.1]; exact ext_drop s (k + 1))
      · have e1 : (((s[k].toNat : Nat) : Int) == (c.toNat : Int)) = false := by
          rw [beq_eq_false_iff_ne]; intro h; exact he (UInt8.toNat_inj.1 (by omega))
        have H := Lib.hid (show ∀ j, j < k + 1 → s.data.toList.getD j 0 ≠ c from fun j hj => by
          by_cases h : j = k
          · subst h; rw [← hgk]; exact he
          · exact HR.out j (by omega))
        clear HR hgk hbl he
        go_wp2
        go_round
        case rel => exact ⟨k + 1, by omega, by go_num, H⟩
        case measure => simp [intOf]; omega
    · have hx := at_none c s.data.toList (index_no _ _ (fun j hj => HR.out j (by rw [ba_len] at hj; omega)))
      have H := Lib.hid hx
      clear hx HR
      go_wp2
      go_ret3
      exact ⟨s, ⟨#[]⟩, (by rw [H.out.2.2]; try rfl), Lib.hid H.out.1.symm, Lib.hid H.out.2.1.symm, 0, rfl⟩

theorem abc_low (b : UInt8) (h1 : 65 ≤ b.toNat) (h2 : b.toNat ≤ 90) (x : ByteArray) :
    (x ++ (ByteArray.extract ⟨#[97, 98, 99, 100, 101, 102, 103, 104, 105, 106, 107, 108, 109, 110, 111, 112, 113, 114, 115, 116, 117, 118, 119, 120, 121, 122]⟩ (b.toNat - 65) (b.toNat - 64))).data.toList = x.data.toList ++ [low b] := by
  have h : ∀ i : Fin 26, (ByteArray.extract ⟨#[97, 98, 99, 100, 101, 102, 103, 104, 105, 106, 107, 108, 109, 110, 111, 112, 113, 114, 115, 116, 117, 118, 119, 120, 121, 122]⟩ (i.1 + 65 - 65) (i.1 + 65 - 64)).data.toList = [low (UInt8.ofNat (i.1 + 65))] := by decide +kernel
  have h3 := h ⟨b.toNat - 65, by omega⟩
  simp only [show b.toNat - 65 + 65 = b.toNat from by omega] at h3
  rw [UInt8.ofNat_toNat] at h3
  rw [ByteArray.data_append, Array.toList_append, h3]

theorem lowL_take (l : List UInt8) (k : Nat) (h : k < l.length) : lowL (l.take (k + 1)) = lowL (l.take k) ++ [low (l.getD k 0)] := by
  show (l.take (k + 1)).map low = (l.take k).map low ++ _
  rw [List.take_succ_eq_append_getElem h, List.map_append]
  congr 1
  simp [List.getD, List.getElem?_eq_getElem h]

set_option maxHeartbeats 2000000 in
theorem refLower_any (s : ByteArray) (w : World) (hs : s.size ≤ 1099511627775) :
    Calls Tryz.prog 15 #[.string s] w fun e w' => ∃ x : ByteArray, e = .returned (.string x) ∧ Hid (x.data.toList = lowL s.data.toList) ∧ ∃ q, w' = w.drewN q := by
  go_enter Tryz.func15, Tryz.ntmps15
  go_wp2
  go_loopw [3, 4] (fun o i wr => ∃ k q : Nat, ∃ x : ByteArray, k ≤ s.size ∧ wr = w.drewN q ∧ i = .int .i64 k ∧ o = .string x ∧ Hid (x.data.toList = lowL (s.data.toList.take k))) (fun _ i _ => s.size - (intOf i).toNat)
  case atStart => exact ⟨0, 0, ⟨#[]⟩, Nat.zero_le _, rfl, rfl, rfl, rfl⟩
  case round =>
    obtain ⟨k, q, x, hk, rfl, rfl, rfl, HR⟩ := hrel
    by_cases hlt : k < s.size
    · have hck := u8_lt s[k]
      have hgk := ba_get s k hlt
      have hbl := ba_len s
      have hxs : x.size = k := by rw [← ba_len, HR.out, lowL_length, List.length_take]; omega
      have hst := lowL_take s.data.toList k (by omega)
      rw [← hgk, ← HR.out] at hst
      have HS := Lib.hid hst
      by_cases h1 : 65 ≤ s[k].toNat
      · by_cases h2 : s[k].toNat ≤ 90
        · have HA := Lib.hid (abc_low s[k] h1 h2 x)
          clear hst hgk hbl
          go_wp2_with (go_quiet (fail))
          go_roundw
          case rel => exact ⟨k + 1, q + nq, _, by omega, by simp [World.drewN], by go_num, rfl, Lib.hid (by rw [HS.out]; exact HA.out)⟩
          case measure => simp [intOf]; omega
        · have HA := Lib.hid (low_lo s[k] (by omega))
          have HB := Lib.hid (ba_app x s k hlt)
          have d2 : decide ((s[k].toNat : Int) ≤ 90) = false := by simp; omega
          clear hst hgk hbl
          go_wp2
          go_roundw
          case rel => exact ⟨k + 1, q, _, by omega, rfl, by go_num, rfl, Lib.hid (by rw [HS.out, HA.out]; exact HB.out)⟩
          case measure => simp [intOf]; omega
      · have HA := Lib.hid (low_lo s[k] (by omega))
        have HB := Lib.hid (ba_app x s k hlt)
        have d2 : decide ((65 : Int) ≤ (s[k].toNat : Int)) = false := by simp; omega
        clear hst hgk hbl
        go_wp2
        go_roundw
        case rel => exact ⟨k + 1, q, _, by omega, rfl, by go_num, rfl, Lib.hid (by rw [HS.out, HA.out]; exact HB.out)⟩
        case measure => simp [intOf]; omega
    · have H := Lib.hid (show x.data.toList = lowL s.data.toList by rw [HR.out, List.take_of_length_le (by rw [ba_len]; omega)])
      clear HR
      go_wp2
      go_ret
      exact ⟨_, rfl, H, q, rfl⟩

end Go.Proofs.YtajojgimbagjoaaGreatDoor

namespace Go.Proofs.YtajojgimbagjoaaGreatDoor

theorem piecesOf_cons (l : List UInt8) (x : Nat × Nat) (r : List (Nat × Nat)) : piecesOf l (x :: r) = sub l x.1 x.2 :: piecesOf l r := rfl
theorem pieces_go (c : UInt8) (l : List UInt8) : ∀ (r : List UInt8) (i f : Nat), l.drop i = r → f ≤ i → i ≤ l.length → piecesOf l (spansGo (isB c) r i f) = Ref.onto (sub l f i) (Ref.splitL c r)
  | [], i, f, _, _, _ => by
    unfold spansGo
    rw [piecesOf_cons]
    simp [piecesOf, Ref.splitL, Ref.onto]
  | b :: r, i, f, hd, hf, hi => by
    have hlt : i < l.length := by
      rcases Nat.lt_or_ge i l.length with h | h
      · exact h
      · rw [List.drop_of_length_le h] at hd; cases hd
    have hdc := drop_cons l i hlt
    rw [hd] at hdc
    simp only [List.cons.injEq] at hdc
    have hb : b = l.getD i 0 := hdc.1
    have hr : l.drop (i + 1) = r := hdc.2.symm
    by_cases h : b = c
    · have hp : isB c b = true := by unfold isB; rw [beq_iff_eq]; exact h
      have e : spansGo (isB c) (b :: r) i f = (f, i) :: spansGo (isB c) r (i + 1) (i + 1) := by conv => lhs; unfold spansGo; rw [if_pos hp]
      rw [e, piecesOf_cons, pieces_go c l r (i + 1) (i + 1) hr (Nat.le_refl _) hlt, sub_nil, h, Ref.split_is, Ref.onto_nil _ (Ref.split_ne c r)]
      simp [Ref.onto]
    · have hp : ¬ isB c b = true := by unfold isB; rw [beq_iff_eq]; exact h
      have e : spansGo (isB c) (b :: r) i f = spansGo (isB c) r (i + 1) f := by conv => lhs; unfold spansGo; rw [if_neg hp]
      rw [e, pieces_go c l r (i + 1) f hr (by omega) hlt, sub_snoc l f i hf hlt, Ref.split_not c b r h, ← hb, Ref.onto_onto _ _ _ (Ref.split_ne c r)]
theorem pieces_split (c : UInt8) (l : List UInt8) : piecesOf l (spansL (isB c) l) = Ref.splitL c l := by
  unfold spansL
  rw [pieces_go c l l 0 0 (List.drop_zero) (Nat.le_refl _) (Nat.zero_le _), sub_nil, Ref.onto_nil _ (Ref.split_ne c l)]

theorem digit_dec (b : UInt8) : digitB b = Ref.decB b := rfl
theorem low_ref (b : UInt8) : low b = Ref.low b := rfl
theorem lowL_ref (l : List UInt8) : lowL l = Ref.lowL l := rfl
theorem let_ref (b : UInt8) : letB b = Ref.letB b := Ref.all_u8 (p := fun b => letB b = Ref.letB b) (by decide +kernel) b
theorem numGo_ref (most : Int) : ∀ (l : List UInt8) (n : Int), numGo most l n = Ref.numGo most l n
  | [], _ => rfl
  | b :: r, n => by
    unfold numGo Ref.numGo
    rw [digit_dec, numGo_ref most r]
theorem numOf_ref (most : Int) (l : List UInt8) : numOf most l = Ref.numOf most l := by
  unfold numOf Ref.numOf
  rw [numGo_ref]

end Go.Proofs.YtajojgimbagjoaaGreatDoor

namespace Go.Proofs.YtajojgimbagjoaaGreatDoor
open Go.RowKit Go.Shelf

theorem bytesOf_numsL (l : List UInt8) : Lib.bytesOf (Lib.numsL l) = l := by
  unfold Lib.bytesOf Lib.numsL
  rw [List.map_map]
  conv => rhs; rw [← List.map_id l]
  apply List.map_congr_left
  intro b _
  simp

theorem IndexByte_any (q : Option Addr) (n c : Nat) (l : List UInt8) (b : UInt8) (w : World) (hl : l.length = n) (hq : q = none → n = 0 ∧ c = 0) (h : Lib.BytesIn w q n (Lib.numsL l)) :
    Calls Tryz.prog 47 #[.slice q n c, .int .u8 (b.toNat : Int)] w fun e w' => e = .returned (.int .i64 (Lib.indexByte l b)) ∧ w' = w := by
  cases q with
  | none =>
    obtain ⟨rfl, rfl⟩ := hq rfl
    obtain rfl : l = [] := List.eq_nil_of_length_eq_zero hl
    exact Tryz.bytes_IndexByte_nil (b.toNat : Int) w
  | some a =>
    have h1 := Tryz.bytes_IndexByte_at a n c (Lib.numsL l) (b.toNat : Int) w (by rw [Lib.numsL_length, hl]) (fun i hi => by
      obtain ⟨b', o, he, hc⟩ := h.at (by omega)
      cases he
      rw [Go.WideShapes.add_plain]
      exact hc i hi)
    rw [bytesOf_numsL, show (b.toNat : Int).toNat.toUInt8 = b from by simp] at h1
    exact h1

theorem index_lt : ∀ (l : List UInt8) (c : UInt8), Lib.indexByte l c < (l.length : Int)
  | [], _ => by simp [Lib.indexByte]
  | x :: r, c => by
    have ih := index_lt r c
    unfold Lib.indexByte
    split
    · simp
    · simp only [beq_iff_eq]
      split <;> simp <;> omega

theorem run_slice_to (q : Option Addr) (n c j : Nat) (W : World) (hj : j ≤ c) :
    (Instr.slice 22 (.slice q n c) none (some (.int .i64 (j : Int))) none).run Tryz.prog W = .ok (.slice (subA q c 0) j c) W := by
  have hs : ∀ w, (Go.sizeOf 5).run Tryz.prog w = .ok 1 w := Tryz.sizeOf5
  have he : Tryz.prog.elem 22 = 5 := by kernel_rfl
  have h := run_slice_h (P := Tryz.prog) (w := W) 22 q n c (by rw [he]; exact Tryz.underlying22) .i64 j (by omega) (by omega)
  rw [h, he, hs]
  simp [Result.andThen, sliced, subA]

theorem run_slice_from (q : Option Addr) (n c i : Nat) (W : World) (hi : i + 1 ≤ n) :
    (Instr.slice 22 (.slice q n c) (some (.int .i64 ((i : Int) + 1))) none none).run Tryz.prog W = .ok (.slice (subA q c (i + 1)) (n - (i + 1)) (c - (i + 1))) W := by
  have hs : ∀ w, (Go.sizeOf 5).run Tryz.prog w = .ok 1 w := Tryz.sizeOf5
  have he : Tryz.prog.elem 22 = 5 := by kernel_rfl
  have h := run_slice_l (P := Tryz.prog) (w := W) 22 q n c (by rw [he]; exact Tryz.underlying22) .i64 ((i : Int) + 1) (by omega) (by omega)
  rw [h, he, hs]
  simp only [Result.andThen, sliced, subA, Nat.mul_one, show ((i : Int) + 1).toNat = i + 1 from by omega]

theorem sub_to (l : List UInt8) (k : Nat) : sub l 0 k = l.take k := by unfold sub; simp
theorem sub_from (l : List UInt8) (k : Nat) : sub l k l.length = l.drop k := by unfold sub; rw [List.take_of_length_le (by simp)]

set_option maxRecDepth 100000 in
set_option maxHeartbeats 8000000 in
theorem At_any (q : Option Addr) (n c : Nat) (l : List UInt8) (b : UInt8) (w : World) (hl : l.length = n) (hn : n ≤ 1099511627775) (hcp : n ≤ c) (hq : q = none → n = 0 ∧ c = 0) (h : Lib.BytesIn w q n (Lib.numsL l)) :
    Calls Tryz.prog 27 #[.slice q n c, .int .u8 (b.toNat : Int)] w fun e w' => ∃ v1 v2, e = .returned (.tuple #[v1, v2, .bool (atOk b l)]) ∧
      w'.ownsRow w.heap.size 5 1 v1 (atFst b l).length ((Lib.numsL (atFst b l)).map (Value.int .u8)) ∧
      w'.ownsRow w.heap.size 5 1 v2 (atSnd b l).length ((Lib.numsL (atSnd b l)).map (Value.int .u8)) ∧ Below w.heap.size w w' := by
  have hix := IndexByte_any q n c l b w hl hq h
  have hge := Lib.indexByte_ge l b
  have hlt := index_lt l b
  by_cases h0 : 0 ≤ Lib.indexByte l b
  · obtain ⟨k, hk⟩ : ∃ k : Nat, Lib.indexByte l b = (k : Int) := ⟨(Lib.indexByte l b).toNat, by omega⟩
    obtain ⟨e1, e2, e3⟩ := at_found b l k hk
    rw [hk] at hix hlt
    have hkn : k < n := by omega
    rw [e1, e2, e3]
    have hb1 := bytes_sub h hl (Nat.zero_le k) (by omega) hcp
    have hb2 := bytes_sub h hl (show k + 1 ≤ n from hkn) (Nat.le_refl n) hcp
    have hs2 : sub l (k + 1) n = l.drop (k + 1) := by rw [← hl]; exact sub_from l (k + 1)
    rw [sub_to, Nat.sub_zero] at hb1
    rw [hs2] at hb2
    have hl1 : (l.take k).length = k := by rw [List.length_take]; omega
    have hl2 : (l.drop (k + 1)).length = n - (k + 1) := by rw [List.length_drop]; omega
    have hwr : IntKind.i64.wrap ((k : Int) + 1) = (k : Int) + 1 := by rw [IntKind.wrap_i64]; omega
    have hr1 : ∀ W, (Instr.slice 22 (.slice q n c) none (some (.int .i64 (k : Int))) none).run Tryz.prog W = .ok (.slice (subA q c 0) k c) W := fun W => run_slice_to q n c k W (by omega)
    have hr2 : ∀ W, (Instr.slice 22 (.slice q n c) (some (.int .i64 ((k : Int) + 1))) none none).run Tryz.prog W = .ok (.slice (subA q c (k + 1)) (n - (k + 1)) (c - (k + 1))) W := fun W => run_slice_from q n c k W hkn
    clear e1 e2 e3 h0 hge hk hs2 h
    rw [hl1, hl2]
    generalize l.take k = l1 at *
    generalize l.drop (k + 1) = l2 at *
    generalize hqa : subA q c 0 = qa at *
    generalize hqb : subA q c (k + 1) = qb at *
    clear hqa hqb
    go_enter Tryz.func27, Tryz.ntmps27
    go_wp2_with fail
    refine hix.mono ?_
    rintro e w' ⟨rfl, hw⟩
    subst hw
    go_wp2_with fail
    refine pregion_any (fun _ => True) (by kernel_rfl) ?_
    refine wpAnyH_take (i := 0) (v := .slice q n c) rfl (by kernel_rfl) (by kernel_rfl) (by kernel_rfl) (fun _ _ _ h => h) (.inl ⟨by kernel_rfl, ?_⟩) trivial ?_
    · rintro w -; go_simp
    refine wpAnyH_take (i := 1) (v := .int .i64 (k : Int)) rfl (by kernel_rfl) (by kernel_rfl) (by kernel_rfl) (fun _ _ _ h => h) (.inl ⟨by kernel_rfl, ?_⟩) trivial ?_
    · rintro w -; go_simp
    refine wpAnyH_take (i := 2) (v := .slice qa k c) rfl (by kernel_rfl) (by kernel_rfl) (by kernel_rfl) (fun _ _ _ h => h) (.inl ⟨by kernel_rfl, ?_⟩) trivial ?_
    · rintro w -; go_simp
    refine wpAnyH_take (i := 4) (v := .slice q n c) rfl (by kernel_rfl) (by kernel_rfl) (by kernel_rfl) (fun _ _ _ h => h) (.inl ⟨by kernel_rfl, ?_⟩) trivial ?_
    · rintro w -; go_simp
    refine wpAnyH_take (i := 5) (v := .int .i64 (k : Int)) rfl (by kernel_rfl) (by kernel_rfl) (by kernel_rfl) (fun _ _ _ h => h) (.inl ⟨by kernel_rfl, ?_⟩) trivial ?_
    · rintro w -; go_simp
    refine wpAnyH_take (i := 6) (v := .int .i64 ((k : Int) + 1)) rfl (by kernel_rfl) (by kernel_rfl) (by kernel_rfl) (fun _ _ _ h => h) (.inl ⟨by kernel_rfl, ?_⟩) trivial ?_
    · rintro w -; go_simp
    refine wpAnyH_take (i := 7) (v := .slice qb (n - (k + 1)) (c - (k + 1))) rfl (by kernel_rfl) (by kernel_rfl) (by kernel_rfl) (fun _ _ _ h => h) (.inl ⟨by kernel_rfl, ?_⟩) trivial ?_
    · rintro w -; go_simp
    have hd1 := bytes_keep hb1 (Keep.drew (fun _ => True) _) (fun _ _ _ => trivial)
    have hd2 := bytes_keep hb2 (Keep.drew (fun _ => True) _) (fun _ _ _ => trivial)
    refine pone 3 (by kernel_rfl) rfl fun K hK => ?_
    go_simp
    refine (Clone_any qa k c l1 _ hl1 (by omega) hd1).mono ?_
    rintro e w1 ⟨v1, rfl, hrow1, hbel1⟩
    have hd3 := bytes_keep hd2 (Keep.of_below hbel1) (fun a h1 h2 => bytes_lt hd2 a h1 h2)
    rw [drew_size] at hrow1 hbel1
    refine hK _ _ trivial ?_
    clear hK K
    refine pone 8 (by kernel_rfl) rfl fun K hK => ?_
    go_simp
    refine (Clone_any qb (n - (k + 1)) (c - (k + 1)) l2 _ hl2 (by omega) hd3).mono ?_
    rintro e w2 ⟨v2, rfl, hrow2, hbel2⟩
    have hrow1' := (Keep.of_below hbel2).row hrow1 (fun b hb => (hrow1.lt b hb).2)
    have hsz := hbel1.size
    rw [drew_size] at hsz
    have hrow2' := row_base hrow2 hsz
    have hfin : Below w'.heap.size w' w2 := (Below.refl _ _).drew.trans (hbel1.trans (hbel2.mono hsz))
    refine hK _ _ trivial ?_
    clear hK K hrow1 hrow2 hbel1 hbel2 hd1 hd2 hd3 hb1 hb2
    refine wpAnyH_take (i := 9) (v := v1) rfl (by kernel_rfl) (by kernel_rfl) (by kernel_rfl) (fun _ _ _ h => h) (.inl ⟨by kernel_rfl, ?_⟩) trivial ?_
    · rintro w -; go_simp
    refine wpAnyH_take (i := 10) (v := v2) rfl (by kernel_rfl) (by kernel_rfl) (by kernel_rfl) (fun _ _ _ h => h) (.inl ⟨by kernel_rfl, ?_⟩) trivial ?_
    · rintro w -; go_simp
    refine wpAnyH_take (i := 11) (v := .bool true) rfl (by kernel_rfl) (by kernel_rfl) (by kernel_rfl) (fun _ _ _ h => h) (.inl ⟨by kernel_rfl, ?_⟩) trivial ?_
    · rintro w -; go_simp
    refine pdone (by kernel_rfl) ?_ _
    go_wp2
    go_ret3
    exact ⟨v1, v2, rfl, hrow1', hrow2', hfin⟩
  · have hk : Lib.indexByte l b = -1 := by omega
    obtain ⟨e1, e2, e3⟩ := at_none b l hk
    rw [hk] at hix
    rw [e1, e2, e3, hl]
    clear e1 e2 e3 h0 hge hk hlt
    go_enter Tryz.func27, Tryz.ntmps27
    go_wp2_with fail
    refine hix.mono ?_
    rintro e w' ⟨rfl, hw⟩
    subst hw
    go_wp2_with fail
    refine (Clone_any q n c l _ hl (by omega) h).mono ?_
    rintro e w1 ⟨v1, rfl, hrow1, hbel1⟩
    go_wp2
    go_ret3
    exact ⟨v1, _, rfl, hrow1, World.ownsRow_nil _ _ _ _, hbel1⟩

end Go.Proofs.YtajojgimbagjoaaGreatDoor

namespace Go.Proofs.YtajojgimbagjoaaGreatDoor.Host
open Go.RowKit Go.Shelf Ref

set_option maxHeartbeats 1000000 in
theorem isDigit_any (b : UInt8) (w : World) :
    Calls Tryz.prog 72 #[.int .u8 (b.toNat : Int)] w fun e w' => e = .returned (.bool (Ref.decB b)) ∧ w = w' := by
  have hb := Ref.u8_lt b
  by_cases h1 : 48 ≤ b.toNat
  · by_cases h2 : b.toNat ≤ 57
    · have H := Lib.hid (show Ref.decB b = true by simp [Ref.decB]; omega)
      have d1 : decide ((48 : Int) ≤ (b.toNat : Int)) = true := by simp; omega
      have d2 : decide ((b.toNat : Int) ≤ (57 : Int)) = true := by simp; omega
      go_enter Tryz.func72, Tryz.ntmps72
      go_wp2
      go_ret
      exact ⟨(by rw [H.out]; try rfl), rfl⟩
    · have H := Lib.hid (show Ref.decB b = false by simp [Ref.decB]; omega)
      have d2 : decide ((b.toNat : Int) ≤ (57 : Int)) = false := by simp; omega
      go_enter Tryz.func72, Tryz.ntmps72
      go_wp2
      go_ret
      exact ⟨(by rw [H.out]; try rfl), rfl⟩
  · have H := Lib.hid (show Ref.decB b = false by simp [Ref.decB]; omega)
    have d1 : decide ((48 : Int) ≤ (b.toNat : Int)) = false := by simp; omega
    go_enter Tryz.func72, Tryz.ntmps72
    go_wp2
    go_ret
    exact ⟨(by rw [H.out]; try rfl), rfl⟩

set_option maxHeartbeats 1000000 in
theorem isLetter_any (b : UInt8) (w : World) :
    Calls Tryz.prog 91 #[.int .u8 (b.toNat : Int)] w fun e w' => e = .returned (.bool (Ref.letB b)) ∧ w = w' := by
  have hb := Ref.u8_lt b
  obtain ⟨x1, h1⟩ : ∃ x, decide ((65 : Int) ≤ (b.toNat : Int)) = x := ⟨_, rfl⟩
  obtain ⟨x2, h2⟩ : ∃ x, decide ((b.toNat : Int) ≤ (90 : Int)) = x := ⟨_, rfl⟩
  obtain ⟨x3, h3⟩ : ∃ x, decide ((97 : Int) ≤ (b.toNat : Int)) = x := ⟨_, rfl⟩
  obtain ⟨x4, h4⟩ : ∃ x, decide ((b.toNat : Int) ≤ (122 : Int)) = x := ⟨_, rfl⟩
  have H := Lib.hid (show Ref.letB b = ((x1 && x2) || (x3 && x4)) by
    rw [← h1, ← h2, ← h3, ← h4, Bool.eq_iff_iff]
    simp only [Ref.letB, decide_eq_true_eq, Bool.or_eq_true, Bool.and_eq_true]
    omega)
  cases x1 <;> cases x2 <;> cases x3 <;> cases x4
  all_goals
    go_enter Tryz.func91, Tryz.ntmps91
    go_wp2
    go_ret
    exact ⟨(by rw [H.out]; try rfl), rfl⟩

theorem part_parts (p : List UInt8) : partB p = (!p.isEmpty && decide (p.length ≤ 63) && p.getD 0 0 != 45 && p.getD (p.length - 1) 0 != 45 && p.all hostByte) := rfl
theorem hostByte_of (b : UInt8) : hostByte b = (Ref.letB b || Ref.decB b || b == 45) := rfl
theorem all_host_drop (l : List UInt8) (k : Nat) (h : k < l.length) : (l.drop k).all hostByte = (hostByte (l.getD k 0) && (l.drop (k + 1)).all hostByte) := by
  rw [Ref.drop_cons l k h, List.all_cons]

set_option maxRecDepth 100000 in
set_option maxHeartbeats 8000000 in
theorem isPart_any (q : Option Addr) (n c : Nat) (l : List UInt8) (w : World) (hl : l.length = n) (hn : n ≤ 140737488355328) (h : Lib.BytesIn w q n (Lib.numsL l)) :
    Calls Tryz.prog 71 #[.slice q n c] w fun e w' => e = .returned (.bool (partB l)) ∧ w = w' := by
  have PP := Lib.hid (part_parts l)
  by_cases hz : n = 0
  · subst hz
    obtain rfl : l = [] := List.eq_nil_of_length_eq_zero hl
    have H := Lib.hid (show partB [] = false from rfl)
    clear PP h
    go_enter Tryz.func71, Tryz.ntmps71
    go_wp2
    go_ret
    exact ⟨(by rw [H.out]; try rfl), rfl⟩
  · have hz' : 0 < n := by omega
    have e0 : ((n : Int) == 0) = false := by rw [beq_eq_false_iff_ne]; omega
    have hne : l.isEmpty = false := by cases l with | nil => simp at hl; omega | cons a r => rfl
    obtain ⟨b, o, rfl, hc⟩ := h.at hz'
    have HC := Lib.hid (fun k (hk : k < n) => show w.cell? ⟨b, o + k, none⟩ = some (.int .u8 ((l.getD k 0).toNat : Int)) by rw [hc k hk, numsL_getD l k (by omega)])
    clear hc h
    by_cases h63 : 63 < n
    · have d3 : decide ((63 : Int) < (n : Int)) = true := by simp; omega
      have H := Lib.hid (show partB l = false by rw [PP.out, hl, decide_eq_false (by omega)]; simp)
      clear PP HC hl hz hne
      go_enter Tryz.func71, Tryz.ntmps71
      go_wp2
      go_ret
      exact ⟨(by rw [H.out]; try rfl), rfl⟩
    · have d3 : decide ((63 : Int) < (n : Int)) = false := by simp; omega
      have ck0 : w.cell? ⟨b, o, none⟩ = some (.int .u8 ((l.getD 0 0).toNat : Int)) := HC.out 0 hz'
      have ckl := HC.out (n - 1) (by omega)
      have PQ := Lib.hid (show partB l = (l.getD 0 0 != 45 && l.getD (n - 1) 0 != 45 && l.all hostByte) by rw [PP.out, hl, decide_eq_true (by omega), hne]; simp)
      have wn : IntKind.i64.wrap ((n : Int) - 1) = ((n - 1 : Nat) : Int) := by rw [IntKind.wrap_i64]; omega
      clear PP hne
      generalize l.getD 0 0 = b0 at *
      by_cases h45 : b0 = 45
      · have e1 : ((b0.toNat : Int) == 45) = true := by rw [h45]; rfl
        have H := Lib.hid (show partB l = false by rw [PQ.out, h45]; rfl)
        clear PQ HC hl hz h45 ckl wn
        go_enter Tryz.func71, Tryz.ntmps71
        go_wp2
        go_ret
        exact ⟨(by rw [H.out]; try rfl), rfl⟩
      · have e1 : ((b0.toNat : Int) == 45) = false := by
          rw [beq_eq_false_iff_ne]; intro h; exact h45 (UInt8.toNat_inj.1 (by have : (45 : UInt8).toNat = 45 := rfl; omega))
        generalize l.getD (n - 1) 0 = bl at *
        by_cases h45' : bl = 45
        · have e2 : ((bl.toNat : Int) == 45) = true := by rw [h45']; rfl
          have H := Lib.hid (show partB l = false by rw [PQ.out, h45']; simp)
          clear PQ HC hl h45 h45'
          go_enter Tryz.func71, Tryz.ntmps71
          go_wp2
          go_ret
          exact ⟨(by rw [H.out]; try rfl), rfl⟩
        · have e2 : ((bl.toNat : Int) == 45) = false := by
            rw [beq_eq_false_iff_ne]; intro h; exact h45' (UInt8.toNat_inj.1 (by have : (45 : UInt8).toNat = 45 := rfl; omega))
          have PA := Lib.hid (show partB l = l.all hostByte by rw [PQ.out, bne_iff_ne.2 h45, bne_iff_ne.2 h45']; simp)
          clear PQ h45 h45'
          have HL := Lib.hid hl
          clear hl
          go_enter Tryz.func71, Tryz.ntmps71
          go_wp2
          clear e0 e1 e2 d3 ck0 ckl wn hz
          go_loop [30] (fun i => ∃ k : Nat, k ≤ n ∧ i = .int .i64 k ∧ Hid (partB l = (l.drop k).all hostByte)) (fun i => n - (intOf i).toNat)
          case atStart => exact ⟨0, Nat.zero_le _, rfl, PA⟩
          case round =>
            obtain ⟨k, hk, rfl, HR⟩ := hrel
            by_cases hlt : k < n
            · have ck := HC.out k hlt
              have hd := all_host_drop l k (by rw [HL.out]; exact hlt)
              rw [hostByte_of] at hd
              generalize l.getD k 0 = bk at *
              have c1 := isLetter_any bk
              have c2 := isDigit_any bk
              have hbk := Ref.u8_lt bk
              cases hle : Ref.letB bk with
              | true =>
                rw [hle] at c1 hd
                have HR2 := Lib.hid (show partB l = (l.drop (k + 1)).all hostByte by rw [HR.out, hd]; simp)
                clear hd hle HR c2 PA
                go_wp2_with (go_at_call 91; refine (c1 _).mono ?_; rintro e w' ⟨rfl, rfl⟩)
                go_round
                case rel => exact ⟨k + 1, by omega, by go_num, HR2⟩
                case measure => simp [intOf]; omega
              | false =>
                cases hde : Ref.decB bk with
                | true =>
                  rw [hle] at c1 hd
                  rw [hde] at c2 hd
                  have HR2 := Lib.hid (show partB l = (l.drop (k + 1)).all hostByte by rw [HR.out, hd]; simp)
                  clear hd hle hde HR PA
                  go_wp2_with (first | (go_at_call 91; refine (c1 _).mono ?_; rintro e w' ⟨rfl, rfl⟩) | (go_at_call 72; refine (c2 _).mono ?_; rintro e w' ⟨rfl, rfl⟩))
                  go_round
                  case rel => exact ⟨k + 1, by omega, by go_num, HR2⟩
                  case measure => simp [intOf]; omega
                | false =>
                  rw [hle] at c1 hd
                  rw [hde] at c2 hd
                  by_cases hmi : bk = 45
                  · have e3 : ((bk.toNat : Int) != 45) = false := by rw [hmi]; rfl
                    have HR2 := Lib.hid (show partB l = (l.drop (k + 1)).all hostByte by rw [HR.out, hd, hmi]; rfl)
                    clear hd hle hde HR hmi PA
                    go_wp2_with (first | (go_at_call 91; refine (c1 _).mono ?_; rintro e w' ⟨rfl, rfl⟩) | (go_at_call 72; refine (c2 _).mono ?_; rintro e w' ⟨rfl, rfl⟩))
                    go_round
                    case rel => exact ⟨k + 1, by omega, by go_num, HR2⟩
                    case measure => simp [intOf]; omega
                  · have e3 : ((bk.toNat : Int) != 45) = true := by
                      rw [bne_iff_ne]; intro h; exact hmi (UInt8.toNat_inj.1 (by have : (45 : UInt8).toNat = 45 := rfl; omega))
                    have H := Lib.hid (show partB l = false by rw [HR.out, hd, beq_false_of_ne hmi]; rfl)
                    clear hd hle hde HR hmi PA
                    go_wp2_with (first | (go_at_call 91; refine (c1 _).mono ?_; rintro e w' ⟨rfl, rfl⟩) | (go_at_call 72; refine (c2 _).mono ?_; rintro e w' ⟨rfl, rfl⟩))
                    go_ret
                    exact ⟨(by rw [H.out]; try rfl), rfl⟩
            · have H := Lib.hid (show partB l = true by rw [HR.out, List.drop_of_length_le (by rw [HL.out]; omega)]; rfl)
              clear HR PA
              go_wp2
              go_ret
              exact ⟨(by rw [H.out]; try rfl), rfl⟩

end Go.Proofs.YtajojgimbagjoaaGreatDoor.Host

namespace Go.Proofs.YtajojgimbagjoaaGreatDoor.Url

theorem at_ahead (c : UInt8) (l : List UInt8) : atFst c l = aheadL c l ∧ Host.tailL c l = (if atOk c l = true then some (atSnd c l) else none) ∧ (atOk c l = false → atSnd c l = []) := by
  by_cases h : c ∈ l
  · obtain ⟨x, y, rfl, hx⟩ := List.eq_append_cons_of_mem h
    have hi : Lib.indexByte (x ++ c :: y) c = (x.length : Int) := index_at _ _ _ (by simp) (by simp [List.getD]) fun j hj => by
      intro e
      apply hx
      rw [← e, List.getD, List.getElem?_append_left hj, List.getElem?_eq_getElem hj]
      exact List.getElem_mem hj
    obtain ⟨h1, h2, h3⟩ := at_found c _ _ hi
    obtain ⟨h4, h5⟩ := ahead_yes c x y hx
    rw [h1, h2, h3, h4, h5, if_pos rfl]
    refine ⟨by simp, by simp, fun h => by cases h⟩
  · have hi : Lib.indexByte l c = -1 := index_no _ _ fun j hj e => h (by
      rw [← e, List.getD, List.getElem?_eq_getElem hj]
      exact List.getElem_mem hj)
    obtain ⟨h1, h2, h3⟩ := at_none c l hi
    obtain ⟨h4, h5⟩ := ahead_no c l h
    rw [h1, h2, h3, h4, h5]
    exact ⟨rfl, rfl, fun _ => rfl⟩
theorem at_len (c : UInt8) (l : List UInt8) : (atFst c l).length ≤ l.length ∧ (atSnd c l).length ≤ l.length := by
  refine ⟨by rw [(at_ahead c l).1]; exact ahead_len c l, ?_⟩
  unfold atSnd
  split
  · rw [List.length_drop]; omega
  · simp

/-- Where "://" begins first. -/
def sepI (l : List UInt8) : Int := Lib.index l [58, 47, 47]
theorem sep_none (l : List UInt8) (h : sepI l = -1) : sepL l = none := by
  induction l with
  | nil => rfl
  | cons b r ih =>
    unfold sepI at h ih
    rw [Lib.index] at h
    split at h
    · cases h
    · rename_i hp
      split at h
      · rename_i hr
        unfold sepL
        split
        · rename_i t
          exact absurd (by simp [List.isPrefixOf]) hp
        · rw [ih (by simpa using hr)]; rfl
      · have := Lib.index_ge r [58, 47, 47]; omega
theorem sep_some : ∀ (l : List UInt8) (k : Nat), sepI l = (k : Int) → sepL l = some (l.take k, l.drop (k + 3)) ∧ k + 3 ≤ l.length
  | [], k, h => by
    unfold sepI at h
    rw [Lib.index] at h
    simp at h
  | b :: r, k, h => by
    have ih := sep_some r
    unfold sepI at h ih
    rw [Lib.index] at h
    split at h
    · rename_i hp
      obtain rfl : k = 0 := by omega
      have hp' : ([58, 47, 47] : List UInt8) <+: b :: r := List.isPrefixOf_iff_prefix.1 hp
      obtain ⟨t, ht⟩ := hp'
      rw [← ht]
      exact ⟨rfl, by simp⟩
    · rename_i hp
      split at h
      · omega
      · rename_i hr
        have hge := Lib.index_ge r [58, 47, 47]
        have hr' : Lib.index r [58, 47, 47] ≠ -1 := by simpa using hr
        obtain ⟨j, hj⟩ : ∃ j : Nat, Lib.index r [58, 47, 47] = (j : Int) := ⟨(Lib.index r [58, 47, 47]).toNat, by omega⟩
        obtain rfl : k = j + 1 := by omega
        obtain ⟨h1, h2⟩ := ih j hj
        refine ⟨?_, by rw [List.length_cons]; omega⟩
        unfold sepL
        split
        · exact absurd (by simp [List.isPrefixOf]) hp
        · rw [h1]
          simp
theorem sep_cases (l : List UInt8) : (sepI l = -1 ∧ sepL l = none) ∨ ∃ k : Nat, sepI l = (k : Int) ∧ k + 3 ≤ l.length ∧ sepL l = some (l.take k, l.drop (k + 3)) := by
  have hge : -1 ≤ sepI l := Lib.index_ge l _
  by_cases h : sepI l = -1
  · exact .inl ⟨h, sep_none l h⟩
  · have hk : sepI l = ((sepI l).toNat : Int) := by omega
    obtain ⟨h1, h2⟩ := sep_some l _ hk
    exact .inr ⟨_, hk, h2, h1⟩

theorem text_scheme (u : U) (h : Ok u) : ∃ k : Nat, sepI (textU u) = (k : Int) ∧ 0 < k ∧ k ≤ (textU u).length ∧ ∀ b ∈ (textU u).take k, 97 ≤ b.toNat ∧ b.toNat ≤ 122 := by
  have e : textU u = u.scheme ++ [58, 47, 47] ++ (u.host ++ portT u ++ u.path ++ queryT u ++ fragT u) := by unfold textU; simp only [List.append_assoc]
  have hs : ∃ r, sepL (textU u) = some (u.scheme, r) := by
    rw [e]
    rcases h.scheme with hs | hs
    · rw [hs]; exact ⟨_, sep_http _⟩
    · rw [hs]; exact ⟨_, sep_https _⟩
  obtain ⟨r, hr⟩ := hs
  rcases sep_cases (textU u) with ⟨_, h2⟩ | ⟨k, h1, h2, h3⟩
  · rw [hr] at h2; cases h2
  · rw [hr] at h3
    have h4 : u.scheme = (textU u).take k := (Prod.mk.inj (Option.some.inj h3)).1
    refine ⟨k, h1, ?_, by omega, ?_⟩
    · rcases Nat.eq_zero_or_pos k with h0 | h0
      · subst h0
        rw [List.take_zero] at h4
        rcases h.scheme with hs | hs <;> (rw [h4] at hs; cases hs)
      · exact h0
    · rw [← h4]
      rcases h.scheme with hs | hs
      · rw [hs]; decide
      · rw [hs]; decide

end Go.Proofs.YtajojgimbagjoaaGreatDoor.Url

namespace Go.Proofs.YtajojgimbagjoaaGreatDoor.Host
open Go.RowKit Go.Shelf
attribute [local go_sem] Oper.semAt_some

theorem results_bool {fn : Func} {p : Tmp} (h : fn.results = #[.cell p 4]) (tmps : Array Value) (w : World) (B : Nat) (v : Value) (hp : tmps.getD p undef = .pointer (some ⟨B, 0, none⟩)) (hb : w.cell? ⟨B, 0, none⟩ = some v) :
    (results fn tmps).run Tryz.prog w = .ok v w := by
  have hp' : tmps[p]?.getD undef = .pointer (some ⟨B, 0, none⟩) := by simpa using hp
  have ha : ∀ w', (isAgg 4).run Tryz.prog w' = .ok false w' := Tryz.isAgg4
  have hl : (load ⟨B, 0, none⟩).run Tryz.prog w = .ok v w := by simp [go_sem, hb]
  simp [results, h, hp', asAddr, loadVar, ha, hl, Result.andThen]

/-- Between two rounds of a loop that makes no memory of its own: E holds of what lay ahead of the loop. -/
def EvI {α : Type} (W0 : World) (E : List α → World → Prop) (pre : List α) (Pv : Nat → Prop) (W : World) : Prop := (∀ b, Pv b → W0.heap.size ≤ b) ∧ Keep (fun _ => False) W0 W ∧ E pre W
/-- Where it has left that loop. -/
def EvX {α : Type} (W0 : World) (E : List α → World → Prop) (c : Code) (pre : List α) (Pv : Nat → Prop) (W : World) : Prop := c = .ret ∧ EvI W0 E pre Pv W
theorem EvI_abide {α : Type} {W0 : World} {E : List α → World → Prop} (hE : ∀ pre A B, Keep (fun b => b < W0.heap.size) A B → E pre A → E pre B) : Abide (EvI W0 E) := by
  rintro pre Pv Pv' A B ⟨h1, h2, h3⟩ hk hp
  refine ⟨fun b hb => ?_, h2.trans (hk.mono fun _ _ h => h.elim), hE _ _ _ (hk.mono fun b _ hb hn => by have := h1 b hn; omega) h3⟩
  rcases (hp b hb).1 with h | h
  · exact h1 b h
  · exact Nat.le_trans h2.size h
theorem EvX_abide {α : Type} {W0 : World} {E : List α → World → Prop} (hE : ∀ pre A B, Keep (fun b => b < W0.heap.size) A B → E pre A → E pre B) (c : Code) : Abide (EvX W0 E c) :=
  fun s Pv Pv' A B h hk hp => ⟨h.1, EvI_abide hE s Pv Pv' A B h.2 hk hp⟩

theorem splitX_snd (c : UInt8) (l : List UInt8) : (splitX c l).map Prod.snd = Ref.splitL c l := by
  rw [← pieces_split]
  unfold splitX splitOf piecesOf
  rw [List.map_map]
  apply List.ext_getElem?
  intro i
  simp only [List.getElem?_map, List.getElem?_zipIdx]
  cases (spansL (isB c) l)[i]? <;> rfl
theorem splitX_length (c : UInt8) (l : List UInt8) : (splitX c l).length = (Ref.splitL c l).length := by rw [← splitX_snd, List.length_map]
theorem addrX (l : List UInt8) : addrB (Ref.splitL 46 l) = (decide ((splitX 46 l).length = 4) && (splitX 46 l).all fun x => Ref.numB x.2) := by
  rw [Ref.addr_num, ← splitX_length, ← splitX_snd, List.all_map]
  rfl

/-- What lies while the parts are gone through. -/
def AdrE (w : World) (pre : List (Nat × List UInt8)) (W : World) : Prop :=
  Boxed W w.heap.size 4 (.bool false) ∧ Boxed W (w.heap.size + 1) 3 (.int .i64 pre.length) ∧ pre.all (fun x => Ref.numB x.2) = true ∧ Below w.heap.size w W
def AdrX (w : World) (xs : List (Nat × List UInt8)) (_ : List (Nat × List UInt8)) (W : World) : Prop :=
  Boxed W w.heap.size 4 (.bool false) ∧ xs.all (fun x => Ref.numB x.2) = false ∧ Below w.heap.size w W

set_option maxRecDepth 100000 in
set_option maxHeartbeats 4000000 in
theorem Address_any (q : Option Addr) (n c : Nat) (l : List UInt8) (w : World) (hl : l.length = n) (hn : n ≤ 140737488355328) (h : Lib.BytesIn w q n (Lib.numsL l)) :
    Calls Tryz.prog 73 #[.slice q n c] w fun e w' => e = .returned (.bool (addressB l)) ∧ Below w.heap.size w w' := by
  refine (callsIn_wide (n := 1)).1 ?_
  refine callsIn_of_wp_marks Tryz.func73 rfl trivial ?_ rfl
  simp only [Tryz.ntmps73, List.size_toArray, List.length_cons, List.length_nil, Nat.reduceAdd, Nat.reduceSub, Array.replicate_succ, Array.replicate_zero, List.push_toArray, List.append_toArray, List.nil_append, List.cons_append]
  by_cases hbig : 253 < n
  · have d1 : decide ((253 : Int) < (n : Int)) = true := by simp; omega
    have H := Lib.hid (address_big l (by omega))
    clear h hl
    gi_wp2
    exact ⟨_, results_bool rfl _ _ w.heap.size _ rfl (Boxed.new w _ _).cell, by rw [H.out], (Below.refl _ _).alloc (Nat.le_refl _) _⟩
  · have d1 : decide ((253 : Int) < (n : Int)) = false := by simp; omega
    have HA := Lib.hid ((address_of l (by omega)).trans (addrX l))
    obtain ⟨W0, hW0⟩ : ∃ W0, (w.alloc (.cells #[.bool false] 4)).alloc (.cells #[.int .i64 0] 3) = W0 := ⟨_, rfl⟩
    have b0 : Boxed W0 w.heap.size 4 (.bool false) := hW0 ▸ (Boxed.new w _ _).alloc _
    have b1 : Boxed W0 (w.heap.size + 1) 3 (.int .i64 0) := by
      have := Boxed.new (w.alloc (.cells #[.bool false] 4)) 3 (.int .i64 0)
      rw [World.size_alloc] at this
      exact hW0 ▸ this
    have hB0 : Below w.heap.size w W0 := hW0 ▸ ((Below.refl _ w).alloc (Nat.le_refl _) _).alloc (by simp) _
    have hs0 : W0.heap.size = w.heap.size + 2 := by rw [← hW0]; simp
    have hb0 := bytes_keep h (Keep.of_below hB0) (fun a h1 h2 => bytes_lt h a h1 h2)
    have con := Split_any q n c 46 l W0 hl (by omega) hb0
    have hsmall := splitX_small 46 l n hl
    have hlenX := splitX_len 46 l
    rw [hl] at hlenX
    have HW0 := Lib.hid hW0
    clear h hW0 hb0 hl
    gi_wp2_with fail
    rw [HW0.out]
    refine ⟨trivial, (callsIn_wide.2 con).mono ?_⟩
    rintro e W1 ⟨B, v', rfl, hB, hBc, hrow, hBl, hbel⟩
    have hit := Split_iter (by omega) hB hBc hrow
    have hRl0 : ∀ b, (b = B ∨ b = W0.heap.size ∨ v'.ownBlock = some b) → w.heap.size + 2 ≤ b ∧ b < W1.heap.size := fun b hb => by
      rcases hb with rfl | rfl | hb
      · exact ⟨by omega, hB.lt⟩
      · exact ⟨by omega, hBc.lt⟩
      · have := hrow.lt b hb; exact ⟨by omega, this.2⟩
    obtain ⟨RB, hRB⟩ : ∃ RB : Nat → Prop, RB = fun b => b = B ∨ b = W0.heap.size ∨ v'.ownBlock = some b := ⟨_, rfl⟩
    rw [← hRB, hs0] at hit
    have hRl : ∀ b, RB b → w.heap.size + 2 ≤ b ∧ b < W1.heap.size := fun b hb => hRl0 b (by rw [hRB] at hb; exact hb)
    clear hRB hRl0
    replace b0 := (Keep.of_below hbel).boxed b0 (by omega)
    replace b1 := (Keep.of_below hbel).boxed b1 (by omega)
    have hB1 := hB0.trans (hbel.mono hB0.size)
    have hs1 := hbel.size
    clear con hB hBc hrow hBl hbel HW0 hB0
    generalize splitX 46 l = xs at *
    gi_wp2
    rw [hs0] at hs1
    clear hs0
    refine rf_law (gf := 74) (lb := #[.pointer (some ⟨B, 0, none⟩), .pointer (some ⟨w.heap.size + 2, 0, none⟩)]) rfl (enters_of Tryz.func74 (by kernel_rfl) rfl)
      hit (Keep.refl _ _) (fun b hb => (hRl b hb).2) (fun x args G W h => by obtain ⟨v, rfl, _⟩ := h; rfl)
      (EvI W1 (AdrE w)) (EvX W1 (AdrX w xs)) (EvI_abide ?e1) (EvX_abide ?e2)
      ⟨(fun _ h => h.elim), Keep.refl _ _, b0, b1, rfl, hB1⟩ ?round ?done ?stop
    case e1 =>
      rintro pre A B hk ⟨h1, h2, h3, h4⟩
      exact ⟨hk.boxed h1 (by omega), hk.boxed h2 (by omega), h3, h4.trans ((hk.mono fun b _ hb => by omega).below h4.size)⟩
    case e2 =>
      rintro pre A B hk ⟨h1, h3, h4⟩
      exact ⟨hk.boxed h1 (by omega), h3, h4.trans ((hk.mono fun b _ hb => by omega).below h4.size)⟩
    case round =>
      rintro ll pre ⟨xi, x⟩ rest Pv G args Wr hll hxs ⟨hge, hK1, hE1, hE2, hE3, hE4⟩ hPl hGl hPb hGP ⟨p, rfl, hp, rfl⟩
      have hxm : (xi, x) ∈ xs := by rw [hxs]; simp
      have hxl := hsmall _ hxm
      simp only at hxl hp
      obtain ⟨qx, cx, rfl, _, hnc, hcm, hbs, hblk⟩ := row_open hp
      have hlen : pre.length + rest.length + 1 = xs.length := by rw [hxs]; simp; omega
      clear hxs
      gi_wp2
      refine ⟨Keep.refl _ _, fun W2 hk2 hs2 r hr => ?_⟩
      have k2 : Keep (fun b => b < W1.heap.size) Wr W2 := hk2.mono fun b _ hb h => by omega
      have f1 := k2.boxed hE1 (by omega)
      have f2 := k2.boxed hE2 (by omega)
      have gx : Keep (fun b => (Value.slice qx x.length cx).ownBlock = some b) Wr W2 := hk2.mono fun b _ hb h => hGl (h ▸ hb)
      have hbs2 : Lib.BytesIn W2 qx x.length (Lib.numsL x) := bytes_keep hbs gx (fun a ha _ => (hblk a ha).2.2)
      have con2 := Number_any qx x.length cx x 255 W2 rfl (by omega) hbs2 (by decide) (by decide)
      rw [numOf_ref] at con2
      unfold numV at con2
      have c1 := f1.cell
      have c2 := f2.cell
      have z1 := f1.frozen
      have z2 := f2.frozen
      have hW2 := hE4.trans ((k2.mono fun b _ h => by omega).below hE4.size)
      have hs2' := hE4.size
      have hK2 := hK1.trans (hk2.mono fun _ _ h => h.elim)
      clear hbs hp hbs2 hblk hk2 gx
      cases ho : Ref.numOf 255 x with
      | none =>
        have HB := Lib.hid (show xs.all (fun x => Ref.numB x.2) = false by
          rw [List.all_eq_false]; exact ⟨_, hxm, by unfold Ref.numB; rw [ho]; simp⟩)
        rw [ho] at con2
        clear ho hxm
        gi_wp2_with fail
        refine ⟨trivial, rfl, (CallsIn.inRound ll (callsIn_wide.2 con2)).mono ?_⟩
        rintro e w' ⟨rfl, rfl⟩
        clear con2
        gi_wp2
        refine ⟨Keep.setCell _ _ _ (fun h => ?_), rfl, fun b hb => hge b hb.1, hK2.trans (Keep.setCell _ _ _ (fun h => h)), f1.set _, HB.out, hW2.setCell (p := ⟨w.heap.size, 0, none⟩) (Nat.le_refl _) _⟩
        rcases h with h | h
        · have := (hRl _ h).1; simp only at this; omega
        · have := hge _ h.1; simp only at this; omega
      | some m =>
        have HB := Lib.hid (show (pre ++ [(xi, x)]).all (fun x => Ref.numB x.2) = true by
          rw [List.all_append, hE3]; simp [Ref.numB, ho])
        have HPL := Lib.hid (show ((pre ++ [(xi, x)]).length : Int) = (pre.length : Int) + 1 by simp)
        have hpl : (pre.length : Int) + 1 ≤ 9223372036854775807 := by omega
        rw [ho] at con2
        clear ho hxm
        gi_wp2_with fail
        refine ⟨trivial, rfl, (CallsIn.inRound ll (callsIn_wide.2 con2)).mono ?_⟩
        rintro e w' ⟨rfl, rfl⟩
        clear con2
        gi_wp2
        have kst : ∀ S : Nat → Prop, ¬ S (w.heap.size + 1) → Keep S W2 (W2.setCell ⟨w.heap.size + 1, 0, none⟩ (.int .i64 ((pre.length : Int) + 1))) := fun S h => Keep.setCell _ _ _ h
        refine ⟨kst _ (fun h => ?_), fun b hb => hge b hb.1, hK2.trans (kst _ (fun h => h)), (kst (fun b => b = w.heap.size) (by omega)).boxed f1 rfl, by rw [HPL.out]; exact f2.set _, HB.out, hW2.setCell (p := ⟨w.heap.size + 1, 0, none⟩) (Nat.le_succ _) _⟩
        rcases h with h | h
        · have := (hRl _ h).1; omega
        · have := hge _ h.1; omega
    case done =>
      rintro D Pv Wd hD hPD hPl ⟨hge, hK1, hE1, hE2, hE3, hE4⟩ hK
      have c1 := hE1.cell
      have c2 := hE2.cell
      have z1 := hE1.frozen
      have z2 := hE2.frozen
      gi_wp2
      have hKd : (Wd.setCell ⟨w.heap.size, 0, none⟩ (.bool ((xs.length : Int) == 4))).heap[D]? = some (.deferred (some [])) := (Keep.setCell (S := fun b => b = D) Wd ⟨w.heap.size, 0, none⟩ _ (show ¬ w.heap.size = D by omega)).heap rfl hK
      have kp : ∀ (S : Nat → Prop) (W : World), ¬ S D → Keep S W (W.putObj D (.deferred none)) := fun S W h => Keep.putObj _ _ _ h
      refine ⟨by simp, .inl ⟨_, _, rfl, run_takeDeferred hKd, ?_⟩⟩
      refine ⟨_, results_bool rfl _ _ w.heap.size _ rfl ((kp (fun b => b = w.heap.size) _ (by omega)).boxed (hE1.set _) rfl).cell, ?_, ?_⟩
      · rw [HA.out, hE3, Bool.and_true]
        congr 2
        rw [Bool.eq_iff_iff, decide_eq_true_iff, beq_iff_eq]; omega
      · have h5 := hE4.setCell (p := ⟨w.heap.size, 0, none⟩) (Nat.le_refl _) (.bool ((xs.length : Int) == 4))
        exact h5.trans ((kp (fun b => b < w.heap.size) _ (by omega)).below h5.size)
    case stop =>
      rintro D cc pre rest Pv Wd hD hPD hPl hxs ⟨rfl, hge, hK1, hE1, hE3, hE4⟩ hK
      have kp : ∀ (S : Nat → Prop) (W : World), ¬ S D → Keep S W (W.putObj D (.deferred none)) := fun S W h => Keep.putObj _ _ _ h
      clear hxs
      gi_wp2
      refine ⟨by simp, .inl ⟨_, _, rfl, run_takeDeferred hK, ?_⟩⟩
      refine ⟨_, results_bool rfl _ _ w.heap.size _ rfl ((kp (fun b => b = w.heap.size) _ (by omega)).boxed hE1 rfl).cell, ?_, ?_⟩
      · rw [HA.out, hE3, Bool.and_false]
      · exact hE4.trans ((kp (fun b => b < w.heap.size) _ (by omega)).below hE4.size)

end Go.Proofs.YtajojgimbagjoaaGreatDoor.Host
