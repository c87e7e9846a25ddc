/- The texts that these laws rest on, put together, part 2. Conditions: as each says. -/
import Derived.Test.YtajojgimbagjoaaDoorBaseA
import Derived.RangeFuncBox
import Derived.Lib.SlBytesConst
import Derived.Lib.SmallJoins
import Derived.Lib.IndexMore
import Derived.Lib.AppendZerosOnto
import Derived.Laws.AppendOwn
import Derived.Shelf.Bytes.SlTrimWalks
import Derived.Lib.IndexBytes
import Derived.Deep.LoopGhost
import Derived.Laws.ResultCell
import Derived.Laws.Rows
import Derived.Lib.Join

namespace Go.Proofs.YtajojgimbagjoaaDoor.Org
open Url
set_option linter.unusedVariables false

/-- "/", "?" or "#". -/
def stopB (b : UInt8) : Bool := b == 47 || b == 63 || b == 35
/-- What stands ahead of the first of them. -/
def stopL (r : List UInt8) : List UInt8 := r.takeWhile fun b => !stopB b
theorem stop_ahead : ∀ r : List UInt8, aheadL 47 (aheadL 63 (aheadL 35 r)) = stopL r
  | [] => rfl
  | b :: r => by
    have ih := stop_ahead r
    unfold aheadL stopL stopB at *
    by_cases h1 : b = 35
    · subst h1; rfl
    · rw [List.takeWhile_cons, if_pos (by simpa using h1)]
      by_cases h2 : b = 63
      · subst h2; rfl
      · rw [List.takeWhile_cons, if_pos (by simpa using h2)]
        by_cases h3 : b = 47
        · subst h3; rfl
        · rw [List.takeWhile_cons, if_pos (by simpa using h3), ih, List.takeWhile_cons, if_pos (by simp [h1, h2, h3])]
theorem stop_mem : ∀ (r : List UInt8), ∀ b ∈ stopL r, stopB b = false
  | [], b, h => by cases h
  | x :: r, b, h => by
    unfold stopL at h
    rw [List.takeWhile_cons] at h
    split at h
    · rename_i hx
      rcases List.mem_cons.1 h with rfl | h
      · simpa using hx
      · exact stop_mem r b h
    · cases h
theorem stop_all : ∀ (r : List UInt8), (∀ b ∈ r, stopB b = false) → stopL r = r
  | [], _ => rfl
  | x :: r, h => by
    have ih := stop_all r fun b hb => h b (List.mem_cons_of_mem _ hb)
    unfold stopL at ih ⊢
    rw [List.takeWhile_cons, if_pos (by rw [h x (List.mem_cons_self ..)]; rfl), ih]
theorem stop_at : ∀ (r : List UInt8), (stopL r).length ≤ r.length ∧ (∀ j, j < (stopL r).length → r.getD j 0 ∈ stopL r) ∧ ((stopL r).length = r.length ∨ ((stopL r).length < r.length ∧ stopB (r.getD (stopL r).length 0) = true))
  | [] => ⟨Nat.le_refl _, fun j h => absurd h (Nat.not_lt_zero _), .inl rfl⟩
  | x :: r => by
    obtain ⟨h1, h2, h3⟩ := stop_at r
    cases hx : stopB x with
    | true =>
      have e : stopL (x :: r) = [] := by unfold stopL; rw [List.takeWhile_cons, if_neg (by rw [hx]; simp)]
      rw [e]
      exact ⟨Nat.zero_le _, fun j h => absurd h (Nat.not_lt_zero _), .inr ⟨by simp, by simpa using hx⟩⟩
    | false =>
      have e : stopL (x :: r) = x :: stopL r := by unfold stopL; rw [List.takeWhile_cons, if_pos (by rw [hx]; rfl)]
      rw [e]
      refine ⟨by simp only [List.length_cons]; omega, fun j hj => ?_, ?_⟩
      · cases j with
        | zero => simp
        | succ j =>
          rw [List.getD_cons_succ]
          exact List.mem_cons_of_mem _ (h2 j (by simp only [List.length_cons] at hj; omega))
      · rw [List.length_cons, List.length_cons, List.getD_cons_succ]
        rcases h3 with h3 | ⟨h3, h4⟩
        · exact .inl (by omega)
        · exact .inr ⟨by omega, h4⟩
theorem host_small : ∀ b : UInt8, Host.hostByte b = true → b.toNat < 128 := fun b => Ref.all_u8 (p := fun b => Host.hostByte b = true → b.toNat < 128) (by decide +kernel) b
/-- What stands behind "://" of a URL, up to the first of these, is of ASCII. -/
theorem rest_small (s r : List UInt8) (u : U) (h : restU s r = .inr u) : ∀ b ∈ stopL r, b.toNat < 128 := by
  intro b hb
  rw [← stop_ahead] at hb
  unfold restU at h
  simp only at h
  split at h
  · cases h
  · rename_i hh
    have hh : Host.parseE (aheadL 58 (aheadL 47 (aheadL 63 (aheadL 35 r)))) = 0 := Decidable.not_not.1 hh
    split at h
    · rename_i n p q f hn hp hq hf
      clear h hp hq hf
      generalize aheadL 47 (aheadL 63 (aheadL 35 r)) = a at *
      have hhost : ∀ x ∈ aheadL 58 a, x.toNat < 128 := fun x hx => by
        rcases host_bytes _ hh x hx with h | h
        · exact host_small x h
        · rw [h]; decide
      by_cases h58 : (58 : UInt8) ∈ a
      · obtain ⟨x, y, rfl, hx⟩ := List.eq_append_cons_of_mem h58
        obtain ⟨e1, e2⟩ := ahead_yes 58 x y hx
        rw [e1] at hhost
        rw [e2, portL] at hn
        obtain ⟨m, hm, _⟩ := Option.bind_eq_some_iff.1 hn
        unfold Ref.numOf at hm
        split at hm
        · cases hm
        · have hd := (Host.num_go 65535 _ _ _ hm).1
          rw [List.all_eq_true] at hd
          rcases List.mem_append.1 hb with hb | hb
          · exact hhost b hb
          · rcases List.mem_cons.1 hb with rfl | hb
            · decide
            · have := (Ref.decB_of b).1 (hd b hb); omega
      · rw [(ahead_no 58 a h58).1] at hhost
        exact hhost b hb
    · cases h
/-- Where a URL's server is. -/
theorem parse_sep (t : List UInt8) (u : U) (h : parseU t = .inr u) : ∃ s r, sepL t = some (s, r) ∧ ∀ b ∈ stopL r, b.toNat < 128 := by
  unfold parseU at h
  split at h
  · cases h
  · split at h
    · cases h
    · rename_i s r hsep
      split at h
      · exact ⟨s, r, hsep, rest_small _ r u h⟩
      · cases h

/-- Does something stand behind the server? -/
def moreB (t : List UInt8) : Bool := match sepL t with
  | some x => decide ((stopL x.2).length < x.2.length)
  | none => false
/-- What the text of a closed one's number says, up to most. -/
def closedQ (most : Nat) (l : List UInt8) : Sum Int (Sum Nat U) := match Ref.numOf most l with
  | some n => if 1 ≤ n then .inr (.inl n.toNat) else .inl 2
  | none => .inl 2
/-- What an origin's text is, up to the number most. -/
def parseQ (most : Nat) (t : List UInt8) : Sum Int (Sum Nat U) :=
  if closedS.isPrefixOf t = true then closedQ most (t.drop 7)
  else match parseU t with
  | .inl e => .inl e
  | .inr u => if moreB t = true then .inl 2 else .inr (.inr u)

theorem closedQ_in (most : Nat) (l : List UInt8) (x : Sum Nat U) (h : closedQ most l = .inr x) : ∃ n : Nat, x = .inl n ∧ 1 ≤ n ∧ n ≤ most := by
  unfold closedQ at h
  split at h
  · rename_i n hn
    split at h
    · cases h
      refine ⟨_, rfl, by omega, ?_⟩
      unfold Ref.numOf at hn
      split at hn
      · cases hn
      · have := (Host.num_go most _ _ _ hn).2.1 (by omega); omega
    · cases h
  · cases h
/-- What is parsed is a closed one up to the number, or a URL's server. -/
theorem Q_in (most : Nat) (t : List UInt8) (x : Sum Nat U) (h : parseQ most t = .inr x) : (∃ n : Nat, x = .inl n ∧ 1 ≤ n ∧ n ≤ most) ∨ ∃ u, x = .inr u ∧ parseU t = .inr u := by
  unfold parseQ at h
  split at h
  · exact .inl (closedQ_in most _ x h)
  · split at h
    · cases h
    · rename_i u hu
      split at h
      · cases h
      · cases h; exact .inr ⟨u, rfl, hu⟩
theorem go_mono (m m' : Int) (hm : m ≤ m') : ∀ (l : List UInt8) (k v : Int), Ref.numGo m l k = some v → Ref.numGo m' l k = some v
  | [], k, v, h => h
  | b :: r, k, v, h => by
    unfold Ref.numGo at h ⊢
    split at h
    · rename_i hc
      rw [if_pos ⟨hc.1, by omega, by omega⟩]
      exact go_mono m m' hm r _ v h
    · cases h
theorem dig_none (most n : Nat) (h : most < n) : Ref.numOf most (digL n) = none := by
  have hn := dig_numOf n n (by omega) (Nat.le_refl _)
  unfold Ref.numOf at hn ⊢
  split at hn
  · cases hn
  · rename_i hc
    rw [if_neg hc]
    cases hv : Ref.numGo most (digL n) 0 with
    | none => rfl
    | some v =>
      have h1 := go_mono most n (by omega) _ _ _ hv
      rw [hn] at h1
      cases h1
      have := (Host.num_go most _ _ _ hv).2.1 (by omega)
      omega
theorem Q_prefix (most : Nat) (l : List UInt8) : parseQ most (closedS ++ l) = closedQ most l := by
  unfold parseQ
  rw [if_pos (by simp)]
  rfl
theorem Q_closed (most n : Nat) (h1 : 1 ≤ n) (h2 : n ≤ most) : parseQ most (closedS ++ digL n) = .inr (.inl n) := by
  rw [Q_prefix]
  unfold closedQ
  rw [dig_numOf most n h1 h2]
  simp only
  rw [if_pos (by omega)]; simp
theorem Q_great (most n : Nat) (h : most < n) : parseQ most (closedS ++ digL n) = .inl 2 := by
  rw [Q_prefix]
  unfold closedQ
  rw [dig_none most n h]
theorem Q_nil (most : Nat) : parseQ most [] = .inl 15 := rfl
theorem Q_server (most : Nat) (u : U) (h : Ok u) (hl : (placeU u).length ≤ 4096) : parseQ most (placeU u) = .inr (.inr (rootU u)) := by
  have hp : closedS.isPrefixOf (placeU u) = false := by
    unfold placeU
    rcases h.scheme with hs | hs <;> rw [hs] <;> rfl
  have hm : moreB (placeU u) = false := by
    have e : placeU u = u.scheme ++ [58, 47, 47] ++ (u.host ++ portT u) := by unfold placeU; simp only [List.append_assoc]
    have hall : ∀ b ∈ u.host ++ portT u, stopB b = false := fun b hb => by
      have n35 := name_no u h 35 (by decide) (by decide) (by decide) (by decide)
      have n63 := name_no u h 63 (by decide) (by decide) (by decide) (by decide)
      have n47 := name_no u h 47 (by decide) (by decide) (by decide) (by decide)
      have d1 : b ≠ 35 := fun e => n35 (e ▸ hb)
      have d2 : b ≠ 63 := fun e => n63 (e ▸ hb)
      have d3 : b ≠ 47 := fun e => n47 (e ▸ hb)
      unfold stopB
      simp [d1, d2, d3]
    have hs : sepL (placeU u) = some (u.scheme, u.host ++ portT u) := by
      rw [e]
      rcases h.scheme with hs | hs <;> rw [hs]
      · exact sep_http _
      · exact sep_https _
    unfold moreB
    rw [hs]
    simp only
    rw [stop_all _ hall]; simp
  unfold parseQ
  rw [if_neg (by rw [hp]; simp), place_parse u h hl]
  simp only
  rw [if_neg (by rw [hm]; simp)]

/-- What has no slash has no server. -/
theorem sep_no47 : ∀ l : List UInt8, (47 : UInt8) ∉ l → sepL l = none
  | [], _ => rfl
  | b :: r, h => by
    have ih := sep_no47 r fun e => h (List.mem_cons_of_mem _ e)
    unfold sepL
    split
    · simp at h
    · rw [ih]; rfl
theorem closed_no47 (n : Nat) : (47 : UInt8) ∉ closedS ++ digL n := by
  rw [List.mem_append, not_or]
  refine ⟨by decide, fun h => ?_⟩
  have := dig_dec n 47 h
  exact absurd this (by decide)

end Go.Proofs.YtajojgimbagjoaaDoor.Org

namespace Go.Proofs.YtajojgimbagjoaaDoor
open Go.RowKit Go.Shelf
attribute [local go_sem] Oper.semAt_some

/-- A text as a value. -/
def strV (x : List UInt8) : Value := .string ⟨x.toArray⟩
theorem strOfNums_numsL (x : List UInt8) : strOfNums (Lib.numsL x) = ⟨x.toArray⟩ := by
  unfold strOfNums
  rw [show (Lib.numsL x).map (fun n => UInt8.ofNat n.toNat) = x from Lib.bytesOf_numsL x]
theorem info_str : (Tryd.prog.info? 9).map (fun i => (i.zero, i.size, i.bytes)) = some (some (.string ByteArray.empty), 1, 16) := by kernel_rfl

end Go.Proofs.YtajojgimbagjoaaDoor

namespace Go.Proofs.YtajojgimbagjoaaDoor
open Go.RowKit Go.Shelf
attribute [local go_sem] Oper.semAt_some

/-- A number and a piece that is handed over with its memory. -/
def NumRowArg (x : Nat × List UInt8) (args : Array Value) (G : Nat → Prop) (W : World) : Prop :=
  ∃ v, args = #[.int .i64 x.1, v] ∧ W.ownsRow 0 5 1 v x.2.length ((Lib.numsL x.2).map (Value.int .u8)) ∧ G = fun b => v.ownBlock = some b

/-- The pieces of a text, counted, out of their bounds. -/
def splitOf (l : List UInt8) (xs : List (Nat × Nat)) : List (Nat × List UInt8) := xs.zipIdx.map fun x => (x.2, sub l x.1.1 x.1.2)
def splitX (c : UInt8) (l : List UInt8) : List (Nat × List UInt8) := splitOf l (spansL (isB c) l)
theorem splitOf_snoc (l : List UInt8) (pre : List (Nat × Nat)) (x : Nat × Nat) : splitOf l (pre ++ [x]) = splitOf l pre ++ [(pre.length, sub l x.1 x.2)] := by
  unfold splitOf
  simp [List.zipIdx_append]
theorem splitOf_mid (c : UInt8) (l : List UInt8) (pre : List (Nat × Nat)) (x : Nat × Nat) (rest : List (Nat × Nat)) (hx : spansL (isB c) l = pre ++ x :: rest) : ∃ r, splitX c l = splitOf l pre ++ (pre.length, sub l x.1 x.2) :: r := by
  unfold splitX splitOf
  rw [hx]
  simp [List.zipIdx_append]
theorem spansGo_len (p : UInt8 → Bool) : ∀ (l : List UInt8) (i f : Nat), (spansGo p l i f).length ≤ l.length + 1
  | [], i, f => by simp [spansGo]
  | b :: r, i, f => by
    unfold spansGo
    split
    · have := spansGo_len p r (i + 1) (i + 1); simp; omega
    · have := spansGo_len p r (i + 1) f; simp; omega

theorem Split_any (q : Option Addr) (n c : Nat) (by_ : UInt8) (l : List UInt8) (w : World) (hl : l.length = n) (hn : n ≤ 140737488355328) (h : Lib.BytesIn w q n (Lib.numsL l)) :
    Calls Tryd.prog 43 #[.slice q n c, .int .u8 (by_.toNat : Int)] w fun e w' => ∃ B v', e = .returned (.func (.func 71) #[] #[.pointer (some ⟨B, 0, none⟩), .pointer (some ⟨w.heap.size, 0, none⟩)]) ∧
      Boxed w' B 22 v' ∧ Boxed w' w.heap.size 5 (.int .u8 (by_.toNat : Int)) ∧ w'.ownsRow (w.heap.size + 1) 5 1 v' n ((Lib.numsL l).map (Value.int .u8)) ∧ w.heap.size + 1 ≤ B ∧ Below w.heap.size w w' := by
  have hb2 := bytes_keep h (Keep.alloc (fun _ => True) w (.cells #[.int .u8 (by_.toNat : Int)] 5)) (fun _ _ _ => trivial)
  have hcon := Clone_any q n c l _ hl hn hb2
  have b1 := Boxed.new w 5 (.int .u8 (by_.toNat : Int))
  have hB1 := (Below.refl w.heap.size w).alloc (Nat.le_refl _) (.cells #[.int .u8 (by_.toNat : Int)] 5)
  rw [World.size_alloc] at hcon
  clear h hb2
  go_enter Tryd.func43, Tryd.ntmps43
  go_wp2_with fail
  refine hcon.mono ?_
  rintro e w1 ⟨v', rfl, hrow, hbel⟩
  obtain ⟨q', c', rfl, _, _, _, _, hblk⟩ := row_open hrow
  have b2 := (Keep.of_below hbel).boxed b1 (Nat.lt_succ_self _)
  have hB2 := hB1.trans (hbel.mono (Nat.le_succ _))
  have hsz := hbel.size
  clear b1 hB1
  go_wp2
  go_ret
  exact ⟨w1.heap.size, _, rfl, Boxed.new w1 _ _, b2.alloc _, hrow.alloc _, by simpa using hsz, hB2.alloc hB2.size _⟩

set_option maxRecDepth 100000 in
set_option maxHeartbeats 2000000 in
theorem Split1_iter (B Bc : Nat) (by_ : UInt8) (q : Option Addr) (n c : Nat) (l : List UInt8) (RB : Nat → Prop) (w0 : World)
    (hl : l.length = n) (hn : n ≤ 140737488355328) (hnc : n ≤ c) (hb : Lib.BytesIn w0 q n (Lib.numsL l)) (hq : ∀ a, q = some a → 0 < n → RB a.block)
    (hB : Boxed w0 B 22 (.slice q n c)) (hRB : RB B) (hBc : Boxed w0 Bc 5 (.int .u8 (by_.toNat : Int))) (hRBc : RB Bc) (hRs : ∀ b, RB b → b < w0.heap.size) :
    IterC Tryd.prog 71 #[.pointer (some ⟨B, 0, none⟩), .pointer (some ⟨Bc, 0, none⟩)] NumRowArg (splitX by_ l) RB w0 := by
  intro l' J Jx W hW hJ hJx hY h0
  refine (callsIn_wide (n := 1)).1 ?_
  refine callsIn_of_wp_marks Tryd.func71 rfl trivial ?_ rfl
  simp only [Tryd.ntmps71, List.size_toArray, List.length_cons, List.length_nil, Nat.reduceAdd, Nat.reduceSub, Array.replicate_succ, Array.replicate_zero, List.push_toArray, List.append_toArray, List.nil_append, List.cons_append]
  have aB0 := hW.boxed hB hRB
  have aBc0 := hW.boxed hBc hRBc
  have bB := aB0.cell
  have bBc := aBc0.cell
  gi_wp2
  have ccB : ∀ o o', ((W.alloc o).alloc o').cell? ⟨B, 0, none⟩ = some (.slice q n c) := fun o o' => ((aB0.alloc o).alloc o').cell
  have ccC : ∀ o o', ((W.alloc o).alloc o').cell? ⟨Bc, 0, none⟩ = some (.int .u8 (by_.toNat : Int)) := fun o o' => ((aBc0.alloc o).alloc o').cell
  have ccB3 : ∀ o o' o'', (((W.alloc o).alloc o').alloc o'').cell? ⟨B, 0, none⟩ = some (.slice q n c) := fun o o' o'' => (((aB0.alloc o).alloc o').alloc o'').cell
  have ccC3 : ∀ o o' o'', (((W.alloc o).alloc o').alloc o'').cell? ⟨Bc, 0, none⟩ = some (.int .u8 (by_.toNat : Int)) := fun o o' o'' => (((aBc0.alloc o).alloc o').alloc o'').cell
  have ccB5 : ∀ o o' o'' p p', (((((W.alloc o).alloc o').alloc o'').alloc p).alloc p').cell? ⟨B, 0, none⟩ = some (.slice q n c) := fun o o' o'' p p' => (((((aB0.alloc o).alloc o').alloc o'').alloc p).alloc p').cell
  have ccC5 : ∀ o o' o'' p p', (((((W.alloc o).alloc o').alloc o'').alloc p).alloc p').cell? ⟨Bc, 0, none⟩ = some (.int .u8 (by_.toNat : Int)) := fun o o' o'' p p' => (((((aBc0.alloc o).alloc o').alloc o'').alloc p).alloc p').cell
  refine region_any (fun w => w.cell? ⟨B, 0, none⟩ = some (.slice q n c) ∧ w.cell? ⟨Bc, 0, none⟩ = some (.int .u8 (by_.toNat : Int))) (by kernel_rfl) ?_
  refine anyH_take 0 (v := .slice q n c) rfl (by kernel_rfl) (by kernel_rfl) (by kernel_rfl) (by kernel_rfl) (fun _ _ _ h => h) ⟨.inl ⟨by rfl, ?_⟩, fun _ => rfl⟩ ⟨ccB _ _, ccC _ _⟩ ?_
  · rintro w ⟨h1, h2⟩; go_simp
  refine anyH_take 1 (v := .int .u8 (by_.toNat : Int)) rfl (by kernel_rfl) (by kernel_rfl) (by kernel_rfl) (by kernel_rfl) (fun _ _ _ h => h) ⟨.inl ⟨by rfl, ?_⟩, fun _ => rfl⟩ ⟨ccB _ _, ccC _ _⟩ ?_
  · rintro w ⟨h1, h2⟩; go_simp
  refine anyH_one 2 (by kernel_rfl) rfl fun K hK => ?_
  go_simp
  refine ⟨trivial, (callsIn_wide.2 (isByte_any by_ _)).mono ?_⟩
  rintro e w' ⟨rfl, rfl⟩
  refine hK _ _ ⟨ccB3 _ _ _, ccC3 _ _ _⟩ ?_
  clear hK K
  refine anyH_one 3 (by kernel_rfl) rfl fun K hK => ?_
  go_simp
  refine ⟨trivial, (callsIn_wide.2 (spans_any _ _ _ _ _ _)).mono ?_⟩
  rintro e w' ⟨rfl, rfl⟩
  refine hK _ _ ⟨ccB5 _ _ _ _ _, ccC5 _ _ _ _ _⟩ ?_
  clear hK K
  refine anyH_done (by kernel_rfl) ?_ _
  clear ccB ccC ccB3 ccC3 ccB5 ccC5
  simp only [drew_alloc, drew_size, World.size_alloc]
  gi_wp2
  obtain ⟨W1, hW1, a0, ai, a2, a3, a4, hsz, hk1⟩ := five_boxes W 99 3 5 22 68 (.func (.yield l') #[] #[]) (.int .i64 0) (.int .u8 (by_.toNat : Int)) (.slice q n c) (.func (.func 95) #[] #[.pointer (some ⟨W.heap.size + 1 + 1, 0, none⟩)])
  rw [hW1]
  clear hW1
  obtain ⟨RBin, hRBin⟩ : ∃ RBin : Nat → Prop, RBin = fun b => RB b ∨ b = W.heap.size ∨ b = W.heap.size + 1 + 1 ∨ b = W.heap.size + 1 + 1 + 1 ∨ b = W.heap.size + 1 + 1 + 1 + 1 := ⟨_, rfl⟩
  obtain ⟨Ow, hOw⟩ : ∃ Ow : Nat → Prop, Ow = fun b => W.heap.size ≤ b ∧ b < W1.heap.size := ⟨_, rfl⟩
  have hW0 := hW.size
  have hRl : ∀ b, RBin b → b < W1.heap.size := fun b hb => by rw [hRBin] at hb; rcases hb with hb | hb; (have := hRs b hb; omega); omega
  have hRi : ¬ RBin (W.heap.size + 1) := fun hb => by rw [hRBin] at hb; rcases hb with hb | hb; (have := hRs _ hb; omega); omega
  have hRBo : ∀ b, RB b → RBin b := fun b hb => by rw [hRBin]; exact .inl hb
  have hOwR : ∀ b, RBin b → RB b ∨ Ow b := fun b hb => by
    have h1 := hRl b hb
    rw [hRBin] at hb; rw [hOw]
    rcases hb with hb | hb
    · exact .inl hb
    · exact .inr ⟨by omega, h1⟩
  have r0 : RBin W.heap.size := by rw [hRBin]; exact .inr (.inl rfl)
  have r2 : RBin (W.heap.size + 1 + 1) := by rw [hRBin]; exact .inr (.inr (.inl rfl))
  have r3 : RBin (W.heap.size + 1 + 1 + 1) := by rw [hRBin]; exact .inr (.inr (.inr (.inl rfl)))
  have r4 : RBin (W.heap.size + 1 + 1 + 1 + 1) := by rw [hRBin]; exact .inr (.inr (.inr (.inr rfl)))
  have hOwl : ∀ b, Ow b → W.heap.size ≤ b ∧ b < W1.heap.size := fun b hb => by rw [hOw] at hb; exact hb
  have o0 : Ow W.heap.size := by rw [hOw]; exact ⟨Nat.le_refl _, by omega⟩
  have oi : Ow (W.heap.size + 1) := by rw [hOw]; exact ⟨by omega, by omega⟩
  clear hRBin hOw
  have hil : W.heap.size + 1 < W1.heap.size := by omega
  have hb1 : Lib.BytesIn W1 q n (Lib.numsL l) := bytes_keep hb (hW.trans (hk1 RB)) hq
  have aB := (hk1 RB).boxed aB0 hRB
  refine rf_law (gf := 94) (lb := #[.pointer (some ⟨W.heap.size + 1 + 1 + 1, 0, none⟩), .pointer (some ⟨W.heap.size + 1 + 1 + 1 + 1, 0, none⟩)]) rfl (enters_of Tryd.func94 (by kernel_rfl) rfl)
    (spans1_iter (W.heap.size + 1 + 1 + 1) (W.heap.size + 1 + 1 + 1 + 1) q n c 95 #[.pointer (some ⟨W.heap.size + 1 + 1, 0, none⟩)] l (isB by_) RBin W1 hl hn hb1 (fun a h1 h2 => hRBo _ (hq a h1 h2)) a3 a4 r3 r4
      (isByte_tests by_ (W.heap.size + 1 + 1) RBin W1 a2 r2)) (Keep.refl _ _) hRl (fun x args G W h => by rw [h.1]; rfl)
    (AdI RBin Ow W1 J (splitOf l) (fun pre Wr => Boxed Wr (W.heap.size + 1) 3 (.int .i64 pre.length))) (AdX J Jx (splitX by_ l)) (AdI_abide hJ hRl (fun _ _ _ hk h => hk.boxed h hil)) (AdX_abide hJ hJx)
    ⟨Keep.refl _ _, (fun _ h => h.elim), ai, Ow, hJ _ _ _ _ _ h0 (hk1 _) (fun b hb => ⟨.inr (hOwl b hb).1, (hOwl b hb).2⟩), (fun _ h => h.elim), (fun _ h => h), (fun b hb => (hOwl b hb).2)⟩ ?round ?done ?stop
  case round =>
    rintro ll pre ⟨f, t⟩ rest Pv G args Wr hll hxs ⟨hKI, hge, hEi, Q, hj, hPQ, hOQ, hQl⟩ hPl hGl hPb hGP ⟨rfl, rfl⟩
    gi_wp2
    refine ⟨Keep.refl _ _, fun W2 hk2 hs2 r hr => ?_⟩
    have hbd := spansL_bounds (isB by_) l (f, t) (by rw [hxs]; simp)
    have hpl : pre.length ≤ n := by
      have h1 := spansGo_len (isB by_) l 0 0
      have h2 : (spansL (isB by_) l).length = pre.length + (rest.length + 1) := by rw [hxs]; simp
      unfold spansL at h2
      omega
    simp only at hbd
    have hlW : W1.heap.size ≤ ll := hge ll hPl
    have hPi : ¬ Pv (W.heap.size + 1) := fun h => by have := hge _ h; omega
    have j2 : J (splitOf l pre) Q W2 := hJ _ _ _ _ _ hj (hk2.mono fun b _ hb => by rintro rfl; exact hb (hPQ _ hPl)) fun b hb => ⟨.inl hb, by have := hQl b hb; omega⟩
    have k2 : Keep RBin W1 W2 := hKI.trans (hk2.mono fun b _ hb => by have := hRl b hb; omega)
    have hQ2 : ∀ b, Q b → b < W2.heap.size := fun b hb => by have := hQl b hb; omega
    have b0 := k2.boxed a0 r0
    have bi := hk2.boxed hEi (by omega)
    have bB := k2.boxed aB (hRBo _ hRB)
    have c0 := b0.cell
    have ci := bi.cell
    have cB := bB.cell
    have hsl := run_slice_sub q n c f t
    obtain ⟨r, hys⟩ := splitOf_mid by_ l pre (f, t) rest hxs
    have hbs : Lib.BytesIn W2 (subA q c f) (t - f) (Lib.numsL (sub l f t)) := bytes_sub (bytes_keep hb1 k2 (fun a h1 h2 => hRBo _ (hq a h1 h2))) hl hbd.1 (by omega) hnc
    have hm := sub_length l f t hbd.2
    have con2 := Clone_any (subA q c f) (t - f) (c - f) (sub l f t) W2.drew hm (by omega) hbs
    have hft : f ≤ t := hbd.1
    have htc : t ≤ c := by omega
    have HSL := fun W => hsl W hft htc
    have after : ∀ w4 v4, w4.ownsRow W2.heap.size 5 1 v4 (t - f) ((Lib.numsL (sub l f t)).map (Value.int .u8)) → Below W2.heap.size W2 w4 →
        w4.cell? ⟨W.heap.size, 0, none⟩ = some (.func (.yield l') #[] #[]) ∧ w4.cell? ⟨W.heap.size + 1, 0, none⟩ = some (.int .i64 pre.length) ∧ w4.cell? ⟨B, 0, none⟩ = some (.slice q n c) ∧
        YieldAt Fence.wide 0 Tryd.prog l' #[.int .i64 pre.length, v4] w4 fun e W' => ∃ ok : Bool, e = .returned (.bool ok) ∧ RowPost J Jx (splitOf l pre ++ [(pre.length, sub l f t)]) RB Q W2 ok W' := by
      intro w4 v4 h1 hbw
      refine ⟨((Keep.of_below hbw).boxed b0 b0.lt).cell, ((Keep.of_below hbw).boxed bi bi.lt).cell, ((Keep.of_below hbw).boxed bB bB.lt).cell, ?_⟩
      exact yield_arg (v4 := v4) hJ hY hys j2 hQ2 hbw (fun b h => h1.lt b h) ⟨v4, rfl, by rw [show (sub l f t).length = t - f from hm]; exact row_base h1 (Nat.zero_le _), rfl⟩
    have HX2 := Lib.hid (splitOf_snoc l pre (f, t))
    have HY := Lib.hid hys
    clear hbs hbd hb1 hxs hys hsl hY hb hq hs2
    gi_wp2_with fail
    refine region_any (fun w => w.cell? ⟨W.heap.size, 0, none⟩ = some (.func (.yield l') #[] #[]) ∧ w.cell? ⟨W.heap.size + 1, 0, none⟩ = some (.int .i64 pre.length) ∧ w.cell? ⟨B, 0, none⟩ = some (.slice q n c)) (by kernel_rfl) ?_
    refine anyH_take 0 (v := .func (.yield l') #[] #[]) rfl (by kernel_rfl) (by kernel_rfl) (by kernel_rfl) (by kernel_rfl) (fun _ _ _ h => h) ⟨.inl ⟨by rfl, ?_⟩, fun _ => rfl⟩ ⟨c0, ci, cB⟩ ?_
    · rintro w ⟨h1, h2, h3⟩; go_simp
    refine anyH_take 1 (v := .int .i64 pre.length) rfl (by kernel_rfl) (by kernel_rfl) (by kernel_rfl) (by kernel_rfl) (fun _ _ _ h => h) ⟨.inl ⟨by rfl, ?_⟩, fun _ => rfl⟩ ⟨c0, ci, cB⟩ ?_
    · rintro w ⟨h1, h2, h3⟩; go_simp
    refine anyH_take 2 (v := .slice q n c) rfl (by kernel_rfl) (by kernel_rfl) (by kernel_rfl) (by kernel_rfl) (fun _ _ _ h => h) ⟨.inl ⟨by rfl, ?_⟩, fun _ => rfl⟩ ⟨c0, ci, cB⟩ ?_
    · rintro w ⟨h1, h2, h3⟩; go_simp
    refine anyH_take 3 (v := .int .i64 f) rfl (by kernel_rfl) (by kernel_rfl) (by kernel_rfl) (by kernel_rfl) (fun _ _ _ h => h) ⟨.inl ⟨by rfl, ?_⟩, fun _ => rfl⟩ ⟨c0, ci, cB⟩ ?_
    · rintro w ⟨h1, h2, h3⟩; go_simp
    refine anyH_take 4 (v := .int .i64 t) rfl (by kernel_rfl) (by kernel_rfl) (by kernel_rfl) (by kernel_rfl) (fun _ _ _ h => h) ⟨.inl ⟨by rfl, ?_⟩, fun _ => rfl⟩ ⟨c0, ci, cB⟩ ?_
    · rintro w ⟨h1, h2, h3⟩; go_simp
    refine anyH_take 5 (v := .slice (subA q c f) (t - f) (c - f)) rfl (by kernel_rfl) (by kernel_rfl) (by kernel_rfl) (by kernel_rfl) (fun _ _ _ h => h) ⟨.inl ⟨by rfl, ?_⟩, fun _ => rfl⟩ ⟨c0, ci, cB⟩ ?_
    · rintro w ⟨h1, h2, h3⟩; go_simp
    refine anyH_one 6 (by kernel_rfl) rfl fun K hK => ?_
    go_simp
    refine ⟨trivial, rfl, (CallsIn.inRound ll (callsIn_wide.2 con2)).mono ?_⟩
    rintro e w4 ⟨v4, rfl, hrow4, hbel4⟩
    obtain ⟨d0, di, dB, fn, tmps, assign, body, hy, hR⟩ := after w4 v4 hrow4 ⟨hbel4.os, hbel4.tape, hbel4.output, hbel4.size, hbel4.block⟩
    refine hK _ _ ⟨d0, di, dB⟩ ?_
    clear hK K
    refine anyH_one 7 (by kernel_rfl) rfl fun K hK => ?_
    go_simp
    refine ⟨rfl, RoundIn.mono hR ?_⟩
    rintro e W5 ⟨ok, rfl, hpost⟩
    have ei := hpost.1.boxed bi (.inr (hOQ _ oi))
    have eS := And.intro (hpost.1.boxed b0 (.inr (hOQ _ o0))).cell (And.intro ei.cell (hpost.1.boxed bB (.inl hRB)).cell)
    refine hK _ _ eS ?_
    clear hK K
    refine anyH_take 8 (v := .bool (!ok)) rfl (by kernel_rfl) (by kernel_rfl) (by kernel_rfl) (by kernel_rfl) (fun _ _ _ h => h) ⟨.inl ⟨by rfl, ?_⟩, fun _ => rfl⟩ eS ?_
    · rintro w ⟨h1, h2, h3⟩; go_simp
    refine anyH_done (by kernel_rfl) ?_ _
    obtain ⟨hkp, Q', hQQ, hQl', hpost⟩ := hpost
    have hkk : Keep (fun b => RBin b ∨ Pv b) W2 W5 := hkp.mono fun b _ h => h.elim (fun h => (hOwR b h).imp id (hOQ b)) (fun h => .inr (hPQ b h))
    have fi := ei.frozen
    have ci5 := ei.cell
    clear hkp after con2 HSL hy hR hrow4 hbel4 d0 di dB eS c0 ci cB
    cases ok with
    | true =>
      have hj5 := (hpost.resolve_right (by simp)).2
      clear hpost
      gi_wp2
      have kst : ∀ S : Nat → Prop, ¬ S (W.heap.size + 1) → Keep S W5 (W5.setCell ⟨W.heap.size + 1, 0, none⟩ (.int .i64 (pre.length + 1))) := fun S h => Keep.setCell _ _ _ h
      refine ⟨hkk.trans (kst _ (fun h => h.elim hRi hPi)), k2.trans ((hkk.mono fun b _ h => .inl h).trans (kst _ hRi)), fun b hb => hge b hb, ?_, Q', ?_, fun b hb => hQQ b (hPQ b hb), fun b hb => hQQ b (hOQ b hb), fun b hb => ?_⟩
      · have := ei.set (.int .i64 ((pre.length : Int) + 1))
        simpa using this
      · rw [HX2.out]
        exact hJ _ _ _ _ _ hj5 (kst _ (fun h => h (hQQ _ (hOQ _ oi)))) (fun b hb => ⟨.inl hb, Nat.lt_of_lt_of_le (hQl' b hb) (kst (fun _ => False) (fun h => h)).size⟩)
      · exact Nat.lt_of_lt_of_le (hQl' b hb) (kst (fun _ => False) (fun h => h)).size
    | false =>
      have hj5 := (hpost.resolve_left (by simp)).2
      clear hpost
      gi_wp2
      exact ⟨hkk, rfl, Q', fun b hb => hQQ b (hPQ b hb), hQl', .inr ⟨_, r, by rw [HY.out, List.append_assoc]; rfl, hj5⟩⟩
  case done =>
    rintro D Pv Wd hD hPD hPl ⟨_, hge, _, Q, hj, hPQ, hOQ, hQl⟩ hK
    gi_wp2
    refine ⟨by simp, .inl ⟨_, _, rfl, run_takeDeferred hK, ?_⟩⟩
    refine ⟨_, results_none rfl _ _ _, ⟨_, rfl⟩, Q, ?_, .inl ?_⟩
    · intro b hb; rw [World.putObj_size]; exact hQl b hb
    · exact hJ _ _ _ _ _ hj (Keep.putObj _ _ _ (fun h => h (hPQ D hPD))) (fun b hb => ⟨.inl hb, by rw [World.putObj_size]; exact hQl b hb⟩)
  case stop =>
    rintro D cc pre rest Pv Wd hD hPD hPl hxs ⟨rfl, Q, hPQ, hQl, hj⟩ hK
    gi_wp2
    refine ⟨by simp, .inl ⟨_, _, rfl, run_takeDeferred hK, ?_⟩⟩
    refine ⟨_, results_none rfl _ _ _, ⟨_, rfl⟩, Q, ?_, ?_⟩
    · intro b hb; rw [World.putObj_size]; exact hQl b hb
    · have hkp : Keep (fun b => ¬ Q b) Wd (Wd.putObj D (.deferred none)) := Keep.putObj _ _ _ (fun h => h (hPQ D hPD))
      have hqp : ∀ b, Q b → (Q b ∨ Wd.heap.size ≤ b) ∧ b < (Wd.putObj D (.deferred none)).heap.size := fun b hb => ⟨.inl hb, by rw [World.putObj_size]; exact hQl b hb⟩
      rcases hj with hj | ⟨pre', rest', he, hj⟩
      · exact .inl (hJ _ _ _ _ _ hj hkp hqp)
      · exact .inr ⟨pre', rest', he, hJx _ _ _ _ _ hj hkp hqp⟩

end Go.Proofs.YtajojgimbagjoaaDoor

namespace Go.Proofs.YtajojgimbagjoaaDoor
open Go.RowKit Go.Shelf

/-- How a list of texts lies. -/
def StrsIn (w : World) (p : Option Addr) (n : Nat) (xs : List (List UInt8)) : Prop :=
  0 < n → ∃ b o, p = some ⟨b, o, none⟩ ∧ ∀ i, i < n → w.cell? ⟨b, o + i, none⟩ = some (strV (xs.getD i []))
def sameL (xs ys : List (List UInt8)) : Bool := decide (xs = ys)
def sameS (x y : List UInt8) : Bool := decide (x = y)

theorem strs_row {W : World} {base n : Nat} {v : Value} {xs : List (List UInt8)} (h : W.ownsRow base 9 1 v n (xs.map strV)) :
    ∃ q c, v = .slice q n c ∧ xs.length = n ∧ n ≤ c ∧ c ≤ maxLen ∧ StrsIn W q n xs ∧ (∀ a, q = some a → a.block < W.heap.size ∧ base ≤ a.block) := by
  have hl : xs.length = n := by have := h.1; simpa using this
  rcases h.2 with ⟨rfl, rfl⟩ | ⟨g, cap, cur, rfl, hb, hg, h1, h2, h3, h4⟩
  · exact ⟨none, 0, rfl, hl, Nat.le_refl _, Nat.zero_le _, fun h0 => absurd h0 (Nat.lt_irrefl 0), by intro a ha; cases ha⟩
  · refine ⟨some ⟨g, 0, none⟩, cap, rfl, hl, h1, h2, fun h0 => ⟨g, 0, rfl, fun i hi => ?_⟩, fun a ha => by cases ha; exact ⟨(Array.getElem?_eq_some_iff.1 hg).1, hb⟩⟩
    have hi' : i < xs.length := by omega
    have hcur : cur[i]? = some (strV (xs.getD i [])) := by
      have : (cur.toList.take (n * 1))[i]? = some (strV (xs.getD i [])) := by
        rw [h4]
        simp [List.getElem?_eq_getElem hi', List.getD]
      rw [List.getElem?_take, if_pos (by omega)] at this
      simpa using this
    simp only [World.cell?, hg, Nat.zero_add]
    exact hcur

theorem drop_consS (l : List (List UInt8)) (k : Nat) (h : k < l.length) : l.drop k = l.getD k [] :: l.drop (k + 1) := by
  rw [List.drop_eq_getElem_cons h]
  simp [List.getD, List.getElem?_eq_getElem h]

end Go.Proofs.YtajojgimbagjoaaDoor

namespace Go.Proofs.YtajojgimbagjoaaDoor.Pct
open Go.RowKit Go.Shelf
attribute [local go_sem] Oper.semAt_some

theorem appended_keep {W w1 : World} {n₀ B : Nat} {t e : TypeId} {size : Nat} {v v' : Value} {k m : Nat} {xs ys : List Value} {tmp : Obj} {S : Nat → Prop}
    (hv : Boxed W B t v) (hte : t ≠ e) (hrow : W.ownsRow n₀ e size v k xs) (hS : ¬ S B) (hSo : ∀ b, v.ownBlock = some b → ¬ S b) (hown' : w1.ownsRow n₀ e size v' m ys) (hgrow : (W.alloc tmp).grownBy w1 v.ownBlock) :
    Boxed w1 B t v ∧ Boxed (w1.setCell ⟨B, 0, none⟩ v') B t v' ∧ (w1.setCell ⟨B, 0, none⟩ v').ownsRow n₀ e size v' m ys ∧ Keep S W (w1.setCell ⟨B, 0, none⟩ v') := by
  have hv1 : Boxed w1 B t v := (hv.alloc tmp).kept hgrow (hv.not_row hte hrow)
  exact ⟨hv1, hv1.set v', hown'.kept (grownBy_setCell' w1 B v') (.inr (hv1.not_row hte hown').symm), ((Keep.alloc S W tmp).trans (Keep.of_grownBy hgrow hSo)).trans (Keep.setCell _ _ _ hS)⟩

/-- Between two rounds: what has come, put together by g, lies in the one box's row. -/
def CollI (g : List (UInt8 × Bool) → List UInt8) (base Bo : Nat) (RB : Nat → Prop) (W0 : World) (pre : List (UInt8 × Bool)) (Pv : Nat → Prop) (W : World) : Prop :=
  ∃ v, Boxed W Bo 22 v ∧ W.ownsRow base 5 1 v (g pre).length (byV (g pre)) ∧ (∀ b, Pv b → W0.heap.size ≤ b) ∧ (∀ b, v.ownBlock = some b → ¬ Pv b) ∧ Keep RB W0 W

theorem CollI_abide (g : List (UInt8 × Bool) → List UInt8) (base Bo : Nat) (RB : Nat → Prop) (W0 : World) (hBo : Bo < W0.heap.size) (hRB : ∀ b, RB b → b < W0.heap.size) : Abide (CollI g base Bo RB W0) := by
  rintro pre Pv Pv' A B ⟨v, h1, h2, h3, h5, h6⟩ hk hp
  have hs := h6.size
  refine ⟨v, hk.boxed h1 (fun h => by have := h3 _ h; omega), hk.row h2 h5, fun b hb => ?_, fun b hb hp' => ?_, h6.trans (hk.mono fun b _ hb hpb => by have := h3 b hpb; have := hRB b hb; omega)⟩
  · rcases (hp b hb).1 with h | h
    · exact h3 b h
    · omega
  · rcases (hp _ hp').1 with h | h
    · exact h5 b hb h
    · have := (h2.lt b hb).2; omega

/-- A text's answer. -/
def TextPost (o : Option (List UInt8)) (w : World) (e : Ending) (w' : World) : Prop :=
  ∃ v n, e = .returned (.tuple #[v, .int .i64 n]) ∧ Hid (n = if o.isSome then 0 else 2) ∧ w'.ownsRow w.heap.size 5 1 v (o.getD []).length (byV (o.getD [])) ∧ Below w.heap.size w w'

end Go.Proofs.YtajojgimbagjoaaDoor.Pct

namespace Go.Proofs.YtajojgimbagjoaaDoor
open Go.RowKit Go.Shelf
attribute [local go_sem] Oper.semAt_some

theorem row_form {W : World} {base : Nat} {e : TypeId} {size n : Nat} {v : Value} {xs : List Value} (h : W.ownsRow base e size v n xs) : ∃ q c, v = .slice q n c := by
  rcases h.2 with ⟨rfl, rfl⟩ | ⟨g, cap, cur, rfl, _⟩
  · exact ⟨none, 0, rfl⟩
  · exact ⟨_, _, rfl⟩
def strN (x : Nat × List UInt8) : Value := strV x.2

end Go.Proofs.YtajojgimbagjoaaDoor

namespace Go.Proofs.YtajojgimbagjoaaDoor.Pct
open Go.RowKit Go.Shelf
attribute [local go_sem] Oper.semAt_some

theorem grown_keep {W w1 : World} {n₀ B : Nat} {t e : TypeId} {size : Nat} {v v' : Value} {k m : Nat} {xs ys : List Value} {S : Nat → Prop}
    (hv : Boxed W B t v) (hte : t ≠ e) (hrow : W.ownsRow n₀ e size v k xs) (hS : ¬ S B) (hSo : ∀ b, v.ownBlock = some b → ¬ S b) (hown' : w1.ownsRow n₀ e size v' m ys) (hG : Grown W v w1 v') :
    Boxed w1 B t v ∧ Boxed (w1.setCell ⟨B, 0, none⟩ v') B t v' ∧ (w1.setCell ⟨B, 0, none⟩ v').ownsRow n₀ e size v' m ys ∧ Keep S W (w1.setCell ⟨B, 0, none⟩ v') := by
  have hv1 : Boxed w1 B t v := (hG.1 (fun b => v.ownBlock ≠ some b) (fun b hb h => h hb)).boxed hv (hv.not_row hte hrow).symm
  exact ⟨hv1, hv1.set v', hown'.kept (grownBy_setCell' w1 B v') (.inr (hv1.not_row hte hown').symm), (hG.1 S hSo).trans (Keep.setCell _ _ _ hS)⟩
theorem can_one (p : Int) (pre : List (UInt8 × Bool)) (x : UInt8) (cd : Bool) : canL p (pre ++ [(x, cd)]) = canL p pre ++ putL (canB p (x, cd)) x := by
  simp [canL]

set_option maxRecDepth 100000 in
set_option maxHeartbeats 4000000 in
theorem Canon_any (q : Option Addr) (n c : Nat) (l : List UInt8) (p : Int) (w : World) (hl : l.length = n) (hn : n ≤ 274877906944) (hb : Lib.BytesIn w q n (Lib.numsL l)) :
    Calls Tryd.prog 30 #[.slice q n c, .int .i64 p] w fun e w' => TextPost ((itemsL l).map (canL p)) w e w' := by
  obtain ⟨i0, hi0, hz0, hz1, hz2⟩ := info_parts info_u8
  obtain ⟨Wp, hWp⟩ : ∃ Wp, w.alloc (.cells #[.int .i64 p] 59) = Wp := ⟨_, rfl⟩
  have hbp : Boxed Wp w.heap.size 59 (.int .i64 p) := by rw [← hWp]; exact Boxed.new w _ _
  have hkp : ∀ S, Keep S w Wp := fun S => by rw [← hWp]; exact Keep.alloc S w _
  have hsp : Wp.heap.size = w.heap.size + 1 := by rw [← hWp]; simp
  have hql := bytes_lt hb
  replace hb := bytes_keep hb (hkp (fun _ => True)) (fun _ _ _ => trivial)
  have con := whole_any q n c l Wp hl (by omega) hb
  have HWp := Lib.hid hWp
  clear hWp
  refine (callsIn_wide (n := 1)).1 ?_
  refine callsIn_of_wp_marks Tryd.func30 rfl trivial ?_ rfl
  simp only [Tryd.ntmps30, List.size_toArray, List.length_cons, List.length_nil, Nat.reduceAdd, Nat.reduceSub, Array.replicate_succ, Array.replicate_zero, List.push_toArray, List.append_toArray, List.nil_append, List.cons_append]
  cases hw : wholeL l with
  | false =>
    have hi := whole_none l hw
    rw [hw] at con
    have HI := Lib.hid hi
    clear hi hw hl hb
    have hBp := (hkp (fun b => b < w.heap.size)).below (Nat.le_refl _)
    clear hsp hkp
    gi_wp2_with fail
    rw [HWp.out]
    refine ⟨trivial, (callsIn_wide.2 con).mono ?_⟩
    rintro e w' ⟨rfl, rfl⟩
    clear con hql
    gi_wp2
    refine ⟨_, results_tmp2 rfl _ _ _, .slice none 0 0, 2, rfl, Lib.hid (by rw [HI.out]; rfl), ?_, hBp⟩
    rw [HI.out]
    exact World.ownsRow_nil _ _ _ _
  | true =>
    obtain ⟨m, hm⟩ := whole_some l hw
    rw [hw] at con
    have hml : m.length ≤ n := by have := items_len l m hm; omega
    obtain ⟨w1, hrun, hown, hgrow⟩ := run_make_own (P := Tryd.prog) (w := Wp) (w.heap.size + 1) 22 5 i0 (.int .u8 0) 1 Tryd.underlying22 hi0 hz0 hz1 .i64 .i64 n (by rw [hz2]; omega) (by unfold maxLen; omega) (by omega)
    have hk1 : ∀ S, Keep S Wp w1 := fun S => Keep.of_grownBy hgrow (fun r h => by cases h)
    have hw1 : w.heap.size + 1 < w1.heap.size := by have := (hown.lt Wp.heap.size rfl).2; omega
    rw [hsp] at hown hrun
    obtain ⟨W1, hW1⟩ : ∃ W1, w1.alloc (.cells #[.slice (some ⟨w.heap.size + 1, 0, none⟩) 0 n] 22) = W1 := ⟨_, rfl⟩
    have hs1 : W1.heap.size = w1.heap.size + 1 := by rw [← hW1]; simp
    have b0 : Boxed (W1.alloc (.cells #[.slice q n c] 22)) w1.heap.size 22 (.slice (some ⟨w.heap.size + 1, 0, none⟩) 0 n) := by rw [← hW1]; exact (Boxed.new w1 _ _).alloc _
    have b1 := Boxed.new W1 22 (.slice q n c)
    have own0 : (W1.alloc (.cells #[.slice q n c] 22)).ownsRow (w.heap.size + 1) 5 1 (.slice (some ⟨w.heap.size + 1, 0, none⟩) 0 n) 0 [] := by rw [← hW1]; exact (hown.alloc _).alloc _
    have hk0 : ∀ S, Keep S Wp (W1.alloc (.cells #[.slice q n c] 22)) := fun S => by rw [← hW1]; exact (hk1 S).trans ((Keep.alloc S w1 _).trans (Keep.alloc S _ _))
    have hs0 : (W1.alloc (.cells #[.slice q n c] 22)).heap.size = w1.heap.size + 2 := by simp; omega
    have con2 := meant_any q n c W1
    have hb0 := bytes_keep hb (hk0 (fun _ => True)) (fun _ _ _ => trivial)
    have HM := Lib.hid hm
    have HL := Lib.hid hl
    have HW1 := Lib.hid hW1
    have HS1 := Lib.hid hs1
    have HS0 := Lib.hid hs0
    have HSP := Lib.hid hsp
    clear hm hw hl hgrow hown hk1 hW1 hs1 hs0 hb hsp
    gi_wp2_with fail
    rw [HWp.out]
    refine ⟨trivial, (callsIn_wide.2 con).mono ?_⟩
    rintro e w' ⟨rfl, rfl⟩
    clear con
    gi_wp2_with fail
    rw [HW1.out]
    refine ⟨trivial, (callsIn_wide.2 con2).mono ?_⟩
    rintro e W0 ⟨rfl, hW0⟩
    rw [← hW0] at b0 b1 own0 hk0 hb0 HS0
    clear con2 hW0 hrun
    gi_wp2
    have hs1 := HS1.out
    have hs0 := HS0.out
    replace hbp := (hk0 (fun _ => True)).boxed hbp trivial
    rw [hs1] at b1
    obtain ⟨RB, hRB⟩ : ∃ RB : Nat → Prop, RB = fun b => b < w.heap.size + 1 ∨ b = w1.heap.size + 1 := ⟨_, rfl⟩
    have hRl : ∀ b, RB b → b < W0.heap.size := fun b hb => by rw [hRB] at hb; rcases hb with h | h <;> omega
    have hRo : ∀ b, b < w.heap.size + 1 → RB b := fun b hb => by rw [hRB]; exact .inl hb
    have hRi : RB (w1.heap.size + 1) := by rw [hRB]; exact .inr rfl
    have hRn : ¬ RB w1.heap.size := fun hb => by rw [hRB] at hb; rcases hb with h | h <;> omega
    have hRr : ∀ b, RB b → w.heap.size + 1 ≤ b → b = w1.heap.size + 1 := fun b hb h => by rw [hRB] at hb; rcases hb with h' | h'; omega; exact h'
    clear hRB
    rw [hs1]
    clear hs1 HS1
    refine rf_law (gf := 76) (lb := #[.pointer (some ⟨w1.heap.size + 1, 0, none⟩)]) rfl (enters_of Tryd.func76 (by kernel_rfl) rfl)
      (meant1_iter (w1.heap.size + 1) q n c l m RB W0 HL.out (by omega) HM.out hb0 (fun a ha h0 => hRo _ (by have := hql a ha h0; omega)) b1 hRi) (Keep.refl _ _) hRl (fun x args G W h => by rw [h.1]; rfl)
      (CollI (canL p) (w.heap.size + 1) w1.heap.size RB W0) (fun _ _ _ _ => False) (CollI_abide _ _ _ _ _ (by omega) hRl) (fun _ _ _ _ _ _ h _ _ => h)
      ⟨_, b0, own0, (fun _ h => h.elim), (fun _ _ h => h), Keep.refl _ _⟩ ?round ?done ?stop
    case round =>
      rintro ll pre ⟨x, cd⟩ rest Pv G args Wr hll hxs ⟨v, hbx, hrow, hge, hnv, hKW⟩ hPl hGl hPb hGP ⟨rfl, rfl⟩
      have hpl : (canL p pre).length ≤ 70368744177664 := by
        have h1 : pre.length + rest.length + 1 = m.length := by rw [hxs]; simp; omega
        have h2 := can_len p pre
        omega
      have hxx := u8_lt x
      clear b0 own0 hb0 hxs
      gi_wp2
      refine ⟨Keep.refl _ _, fun W2 hk2 hs2 r hr => ?_⟩
      have hnP : ∀ b, b < W0.heap.size → ¬ Pv b := fun b hb h => by have := hge b h; omega
      have hk2' : Keep (fun b => ¬ Pv b) Wr W2 := hk2.mono fun b _ hb h => hb (h ▸ hPl)
      replace hbx := hk2'.boxed hbx (hnP _ (by omega))
      replace hrow := hk2'.row hrow hnv
      have hK2 : Keep RB W0 W2 := hKW.trans (hk2'.mono fun b _ hb => hnP b (hRl b hb))
      have hPl2 : ∀ b, Pv b → b < W2.heap.size := fun b hb => by rw [hs2]; exact hPb b hb
      have hvn : ∀ b, v.ownBlock = some b → ¬ (RB b ∨ Pv b) := fun b hb h => by
        rcases h with h | h
        · have h1 := hrow.lt b hb
          have h2 := hRr b h h1.1
          rw [h2] at hb
          exact (hK2.boxed b1 hRi).not_row (by decide) hrow hb.symm
        · exact hnv b hb h
      clear hk2 hk2' hs2 hr hKW
      obtain ⟨Wd, hWd⟩ : ∃ Wd, W2.drew = Wd := ⟨_, rfl⟩
      have hkd : ∀ S, Keep S W2 Wd := fun S => by rw [← hWd]; exact Keep.drew S W2
      replace hbx := (hkd (fun _ => True)).boxed hbx trivial
      replace hrow := (hkd (fun _ => True)).row hrow (fun _ _ => trivial)
      have hKd := hK2.trans (hkd RB)
      replace hPl2 : ∀ b, Pv b → b < Wd.heap.size := fun b hb => by rw [← hWd]; exact hPl2 b hb
      replace hbp := hKd.boxed hbp (hRo _ (by omega))
      have cB := hbx.cell
      have hS := hbp.cell
      have hszW := hKd.size
      have hwW : w.heap.size + 1 ≤ Wd.heap.size := by omega
      have HWd := Lib.hid hWd
      have c1 := isFree_any x
      have c2 := stands_any x p
      have c3 := fun s => appendByte_any (w.heap.size + 1) v (canL p pre) x s Wd hrow hwW hpl
      obtain ⟨z1, H1⟩ : ∃ z, Hid (freeB x = z) := ⟨_, rfl⟩
      obtain ⟨z2, H2⟩ : ∃ z, Hid (standsB p x = z) := ⟨_, rfl⟩
      rw [H1.out] at c1
      rw [H2.out] at c2
      have hcb : canB p (x, cd) = (z1 || (!cd && z2)) := by unfold canB; rw [H1.out, H2.out]
      clear hWd H1 H2
      gi_wp2_with fail
      refine region_any (fun X => X.cell? ⟨w.heap.size, 0, none⟩ = some (.int .i64 p)) (by kernel_rfl) ?_
      rw [HWd.out]
      cases z1
      · cases cd
        · have HC := Lib.hid (show canB p (x, false) = z2 by rw [hcb]; rfl)
          clear hcb
          refine anyC_take 1 (v := (.int .u8 (x.toNat : Int))) rfl (by kernel_rfl) (by kernel_rfl) (by kernel_rfl) (by kernel_rfl) (fun _ _ _ h => h) (.inl ⟨by rfl, fun X hX => ⟨fun _ _ => trivial, .inl ?_⟩⟩) hS ?_
          · go_simp
          simp only [Act.put, List.getElem_toArray, List.getElem_cons_zero, List.getElem_cons_succ, List.setIfInBounds_toArray, List.set_cons_zero, List.set_cons_succ]
          refine anyH_list #[false, true, false, false, false, false, false, false, false, false, false, false, false, false, false] (by kernel_rfl) ?_
          refine anyC_take 2 (v := (.int .u8 (x.toNat : Int))) rfl (by kernel_rfl) (by kernel_rfl) (by kernel_rfl) (by kernel_rfl) (fun _ _ _ h => h) (.inl ⟨by rfl, fun X hX => ⟨fun _ _ => trivial, .inl ?_⟩⟩) hS ?_
          · go_simp
          simp only [Act.put, List.getElem_toArray, List.getElem_cons_zero, List.getElem_cons_succ, List.setIfInBounds_toArray, List.set_cons_zero, List.set_cons_succ]
          refine anyH_list #[false, true, true, false, false, false, false, false, false, false, false, false, false, false, false] (by kernel_rfl) ?_
          refine anyC_take 3 (v := (.bool false)) rfl (by kernel_rfl) (by kernel_rfl) (by kernel_rfl) (by kernel_rfl) (fun _ _ _ h => h) (.inl ⟨by rfl, fun X hX => ⟨fun _ _ => trivial, .inr ⟨48, #[.int .u8 (x.toNat : Int)], ?_, (fun h => by cases h), (CallsIn.inRound ll (callsIn_wide.2 (c1 X))).mono (fun _ _ h => ⟨h.1, h.2.symm⟩)⟩⟩⟩) hS ?_
          · go_simp
          simp only [Act.put, List.getElem_toArray, List.getElem_cons_zero, List.getElem_cons_succ, List.setIfInBounds_toArray, List.set_cons_zero, List.set_cons_succ]
          refine anyH_list #[false, true, true, true, false, false, false, false, false, false, false, false, false, false, false] (by kernel_rfl) ?_
          refine anyC_take 4 (v := (.bool false)) rfl (by kernel_rfl) (by kernel_rfl) (by kernel_rfl) (by kernel_rfl) (fun _ _ _ h => h) (.inl ⟨by rfl, fun X hX => ⟨fun _ _ => trivial, .inl ?_⟩⟩) hS ?_
          · go_simp
          simp only [Act.put, List.getElem_toArray, List.getElem_cons_zero, List.getElem_cons_succ, List.setIfInBounds_toArray, List.set_cons_zero, List.set_cons_succ]
          refine anyH_list #[false, true, true, true, true, false, false, false, false, false, false, false, false, false, false] (by kernel_rfl) ?_
          refine anyC_take 5 (v := (.bool false)) rfl (by kernel_rfl) (by kernel_rfl) (by kernel_rfl) (by kernel_rfl) (fun _ _ _ h => h) (.inl ⟨by rfl, fun X hX => ⟨fun _ _ => trivial, .inl ?_⟩⟩) hS ?_
          · go_simp
          simp only [Act.put, List.getElem_toArray, List.getElem_cons_zero, List.getElem_cons_succ, List.setIfInBounds_toArray, List.set_cons_zero, List.set_cons_succ]
          refine anyH_list #[false, true, true, true, true, true, false, false, false, false, false, false, false, false, false] (by kernel_rfl) ?_
          refine anyC_take 6 (v := (.bool true)) rfl (by kernel_rfl) (by kernel_rfl) (by kernel_rfl) (by kernel_rfl) (fun _ _ _ h => h) (.inl ⟨by rfl, fun X hX => ⟨fun _ _ => trivial, .inl ?_⟩⟩) hS ?_
          · go_simp
          simp only [Act.put, List.getElem_toArray, List.getElem_cons_zero, List.getElem_cons_succ, List.setIfInBounds_toArray, List.set_cons_zero, List.set_cons_succ]
          refine anyH_list #[false, true, true, true, true, true, true, false, false, false, false, false, false, false, false] (by kernel_rfl) ?_
          refine anyC_take 7 (v := (.bool true)) rfl (by kernel_rfl) (by kernel_rfl) (by kernel_rfl) (by kernel_rfl) (fun _ _ _ h => h) (.inl ⟨by rfl, fun X hX => ⟨fun _ _ => trivial, .inl ?_⟩⟩) hS ?_
          · go_simp
          simp only [Act.put, List.getElem_toArray, List.getElem_cons_zero, List.getElem_cons_succ, List.setIfInBounds_toArray, List.set_cons_zero, List.set_cons_succ]
          refine anyH_list #[false, true, true, true, true, true, true, true, false, false, false, false, false, false, false] (by kernel_rfl) ?_
          refine anyC_take 8 (v := (.int .u8 (x.toNat : Int))) rfl (by kernel_rfl) (by kernel_rfl) (by kernel_rfl) (by kernel_rfl) (fun _ _ _ h => h) (.inl ⟨by rfl, fun X hX => ⟨fun _ _ => trivial, .inl ?_⟩⟩) hS ?_
          · go_simp
          simp only [Act.put, List.getElem_toArray, List.getElem_cons_zero, List.getElem_cons_succ, List.setIfInBounds_toArray, List.set_cons_zero, List.set_cons_succ]
          refine anyH_list #[false, true, true, true, true, true, true, true, true, false, false, false, false, false, false] (by kernel_rfl) ?_
          refine anyC_take 9 (v := (.int .i64 p)) rfl (by kernel_rfl) (by kernel_rfl) (by kernel_rfl) (by kernel_rfl) (fun _ _ _ h => h) (.inl ⟨by rfl, fun X hX => ⟨fun _ _ => trivial, .inl ?_⟩⟩) hS ?_
          · go_simp
          simp only [Act.put, List.getElem_toArray, List.getElem_cons_zero, List.getElem_cons_succ, List.setIfInBounds_toArray, List.set_cons_zero, List.set_cons_succ]
          refine anyH_list #[false, true, true, true, true, true, true, true, true, true, false, false, false, false, false] (by kernel_rfl) ?_
          refine anyC_take 10 (v := (.bool z2)) rfl (by kernel_rfl) (by kernel_rfl) (by kernel_rfl) (by kernel_rfl) (fun _ _ _ h => h) (.inl ⟨by rfl, fun X hX => ⟨fun _ _ => trivial, .inr ⟨49, #[.int .u8 (x.toNat : Int), .int .i64 p], ?_, (fun h => by cases h), (CallsIn.inRound ll (callsIn_wide.2 (c2 X))).mono (fun _ _ h => ⟨h.1, h.2.symm⟩)⟩⟩⟩) hS ?_
          · go_simp
          simp only [Act.put, List.getElem_toArray, List.getElem_cons_zero, List.getElem_cons_succ, List.setIfInBounds_toArray, List.set_cons_zero, List.set_cons_succ]
          refine anyH_list #[false, true, true, true, true, true, true, true, true, true, true, false, false, false, false] (by kernel_rfl) ?_
          refine anyC_take 11 (v := (.bool z2)) rfl (by kernel_rfl) (by kernel_rfl) (by kernel_rfl) (by kernel_rfl) (fun _ _ _ h => h) (.inl ⟨by rfl, fun X hX => ⟨fun _ _ => trivial, .inl ?_⟩⟩) hS ?_
          · go_simp
          simp only [Act.put, List.getElem_toArray, List.getElem_cons_zero, List.getElem_cons_succ, List.setIfInBounds_toArray, List.set_cons_zero, List.set_cons_succ]
          refine anyH_list #[false, true, true, true, true, true, true, true, true, true, true, true, false, false, false] (by kernel_rfl) ?_
          refine anyC_take 12 (v := (.bool z2)) rfl (by kernel_rfl) (by kernel_rfl) (by kernel_rfl) (by kernel_rfl) (fun _ _ _ h => h) (.inl ⟨by rfl, fun X hX => ⟨fun _ _ => trivial, .inl ?_⟩⟩) hS ?_
          · go_simp
          simp only [Act.put, List.getElem_toArray, List.getElem_cons_zero, List.getElem_cons_succ, List.setIfInBounds_toArray, List.set_cons_zero, List.set_cons_succ]
          refine anyH_list #[false, true, true, true, true, true, true, true, true, true, true, true, true, false, false] (by kernel_rfl) ?_
          refine anyH_one 0 (by kernel_rfl) rfl fun K hK => ?_
          go_simp
          refine hK _ _ hS ?_
          clear hK K
          refine anyH_list #[true, true, true, true, true, true, true, true, true, true, true, true, true, false, false] (by kernel_rfl) ?_
          refine anyH_one 13 (by kernel_rfl) rfl fun K hK => ?_
          go_simp
          refine ⟨trivial, rfl, (CallsIn.inRound ll (callsIn_wide.2 (c3 z2))).mono ?_⟩
          rintro e w3 ⟨v', rfl, hr3, hG⟩
          obtain ⟨nt, hnt⟩ : ∃ nt, canL p pre ++ putL z2 x = nt := ⟨_, rfl⟩
          rw [hnt] at hr3
          have HN := Lib.hid hnt
          clear hnt
          obtain ⟨q3, cc3, rfl, _⟩ := row_open hr3
          obtain ⟨hv1, hv2, hr2, hkk⟩ := grown_keep (S := fun b => RB b ∨ Pv b) hbx (by decide) hrow (fun h => h.elim hRn (hnP _ (by omega))) hvn hr3 hG
          have hS3 := ((hG.1 (fun b => b = w.heap.size) (fun b hb h => by have := (hrow.lt b hb).1; omega)).boxed hbp rfl).cell
          have hS4 := (hkk.boxed hbp (.inl (hRo _ (by omega)))).cell
          have hc1 := hv1.cell
          have hf1 := hv1.frozen
          refine hK _ _ hS3 ?_
          clear hK K
          refine anyH_list #[true, true, true, true, true, true, true, true, true, true, true, true, true, true, false] (by kernel_rfl) ?_
          refine anyH_one 14 (by kernel_rfl) rfl fun K hK => ?_
          go_simp
          refine hK _ _ hS4 ?_
          clear hK K
          refine anyH_done (by kernel_rfl) ?_ _
          clear hS3 hc1 hf1 c1 c2 c3
          gi_wp2
          refine ⟨(hkd _).trans hkk, _, hv2, ?_, fun b hb => hge b hb, fun b hb hp => ?_, hKd.trans (hkk.mono fun b _ h => .inl h)⟩
          · rw [can_one, HC.out, HN.out]; exact hr2
          · rcases hG.2 b hb with h | h
            · exact hnv b h hp
            · have h5 := hPl2 _ hp; omega
        · have HC := Lib.hid (show canB p (x, true) = false by rw [hcb]; rfl)
          clear hcb
          refine anyC_take 1 (v := (.int .u8 (x.toNat : Int))) rfl (by kernel_rfl) (by kernel_rfl) (by kernel_rfl) (by kernel_rfl) (fun _ _ _ h => h) (.inl ⟨by rfl, fun X hX => ⟨fun _ _ => trivial, .inl ?_⟩⟩) hS ?_
          · go_simp
          simp only [Act.put, List.getElem_toArray, List.getElem_cons_zero, List.getElem_cons_succ, List.setIfInBounds_toArray, List.set_cons_zero, List.set_cons_succ]
          refine anyH_list #[false, true, false, false, false, false, false, false, false, false, false, false, false, false, false] (by kernel_rfl) ?_
          refine anyC_take 2 (v := (.int .u8 (x.toNat : Int))) rfl (by kernel_rfl) (by kernel_rfl) (by kernel_rfl) (by kernel_rfl) (fun _ _ _ h => h) (.inl ⟨by rfl, fun X hX => ⟨fun _ _ => trivial, .inl ?_⟩⟩) hS ?_
          · go_simp
          simp only [Act.put, List.getElem_toArray, List.getElem_cons_zero, List.getElem_cons_succ, List.setIfInBounds_toArray, List.set_cons_zero, List.set_cons_succ]
          refine anyH_list #[false, true, true, false, false, false, false, false, false, false, false, false, false, false, false] (by kernel_rfl) ?_
          refine anyC_take 3 (v := (.bool false)) rfl (by kernel_rfl) (by kernel_rfl) (by kernel_rfl) (by kernel_rfl) (fun _ _ _ h => h) (.inl ⟨by rfl, fun X hX => ⟨fun _ _ => trivial, .inr ⟨48, #[.int .u8 (x.toNat : Int)], ?_, (fun h => by cases h), (CallsIn.inRound ll (callsIn_wide.2 (c1 X))).mono (fun _ _ h => ⟨h.1, h.2.symm⟩)⟩⟩⟩) hS ?_
          · go_simp
          simp only [Act.put, List.getElem_toArray, List.getElem_cons_zero, List.getElem_cons_succ, List.setIfInBounds_toArray, List.set_cons_zero, List.set_cons_succ]
          refine anyH_list #[false, true, true, true, false, false, false, false, false, false, false, false, false, false, false] (by kernel_rfl) ?_
          refine anyC_take 4 (v := (.bool false)) rfl (by kernel_rfl) (by kernel_rfl) (by kernel_rfl) (by kernel_rfl) (fun _ _ _ h => h) (.inl ⟨by rfl, fun X hX => ⟨fun _ _ => trivial, .inl ?_⟩⟩) hS ?_
          · go_simp
          simp only [Act.put, List.getElem_toArray, List.getElem_cons_zero, List.getElem_cons_succ, List.setIfInBounds_toArray, List.set_cons_zero, List.set_cons_succ]
          refine anyH_list #[false, true, true, true, true, false, false, false, false, false, false, false, false, false, false] (by kernel_rfl) ?_
          refine anyC_take 5 (v := (.bool true)) rfl (by kernel_rfl) (by kernel_rfl) (by kernel_rfl) (by kernel_rfl) (fun _ _ _ h => h) (.inl ⟨by rfl, fun X hX => ⟨fun _ _ => trivial, .inl ?_⟩⟩) hS ?_
          · go_simp
          simp only [Act.put, List.getElem_toArray, List.getElem_cons_zero, List.getElem_cons_succ, List.setIfInBounds_toArray, List.set_cons_zero, List.set_cons_succ]
          refine anyH_list #[false, true, true, true, true, true, false, false, false, false, false, false, false, false, false] (by kernel_rfl) ?_
          refine anyC_take 6 (v := (.bool false)) rfl (by kernel_rfl) (by kernel_rfl) (by kernel_rfl) (by kernel_rfl) (fun _ _ _ h => h) (.inl ⟨by rfl, fun X hX => ⟨fun _ _ => trivial, .inl ?_⟩⟩) hS ?_
          · go_simp
          simp only [Act.put, List.getElem_toArray, List.getElem_cons_zero, List.getElem_cons_succ, List.setIfInBounds_toArray, List.set_cons_zero, List.set_cons_succ]
          refine anyH_list #[false, true, true, true, true, true, true, false, false, false, false, false, false, false, false] (by kernel_rfl) ?_
          refine anyC_take 7 (v := (.bool false)) rfl (by kernel_rfl) (by kernel_rfl) (by kernel_rfl) (by kernel_rfl) (fun _ _ _ h => h) (.inl ⟨by rfl, fun X hX => ⟨fun _ _ => trivial, .inl ?_⟩⟩) hS ?_
          · go_simp
          simp only [Act.put, List.getElem_toArray, List.getElem_cons_zero, List.getElem_cons_succ, List.setIfInBounds_toArray, List.set_cons_zero, List.set_cons_succ]
          refine anyH_list #[false, true, true, true, true, true, true, true, false, false, false, false, false, false, false] (by kernel_rfl) ?_
          refine anyC_take 8 (v := undef) rfl (by kernel_rfl) (by kernel_rfl) (by kernel_rfl) (by kernel_rfl) (fun _ _ _ h => h) (.inr ⟨by rfl, rfl, fun _ _ _ => trivial⟩) hS ?_
          simp only [Act.put, List.getElem_toArray, List.getElem_cons_zero, List.getElem_cons_succ, List.setIfInBounds_toArray, List.set_cons_zero, List.set_cons_succ]
          refine anyH_list #[false, true, true, true, true, true, true, true, true, false, false, false, false, false, false] (by kernel_rfl) ?_
          refine anyC_take 9 (v := undef) rfl (by kernel_rfl) (by kernel_rfl) (by kernel_rfl) (by kernel_rfl) (fun _ _ _ h => h) (.inr ⟨by rfl, rfl, fun _ _ _ => trivial⟩) hS ?_
          simp only [Act.put, List.getElem_toArray, List.getElem_cons_zero, List.getElem_cons_succ, List.setIfInBounds_toArray, List.set_cons_zero, List.set_cons_succ]
          refine anyH_list #[false, true, true, true, true, true, true, true, true, true, false, false, false, false, false] (by kernel_rfl) ?_
          refine anyC_take 10 (v := undef) rfl (by kernel_rfl) (by kernel_rfl) (by kernel_rfl) (by kernel_rfl) (fun _ _ _ h => h) (.inr ⟨by rfl, rfl, fun _ _ _ => trivial⟩) hS ?_
          simp only [Act.put, List.getElem_toArray, List.getElem_cons_zero, List.getElem_cons_succ, List.setIfInBounds_toArray, List.set_cons_zero, List.set_cons_succ]
          refine anyH_list #[false, true, true, true, true, true, true, true, true, true, true, false, false, false, false] (by kernel_rfl) ?_
          refine anyC_take 11 (v := (.bool false)) rfl (by kernel_rfl) (by kernel_rfl) (by kernel_rfl) (by kernel_rfl) (fun _ _ _ h => h) (.inl ⟨by rfl, fun X hX => ⟨fun _ _ => trivial, .inl ?_⟩⟩) hS ?_
          · go_simp
          simp only [Act.put, List.getElem_toArray, List.getElem_cons_zero, List.getElem_cons_succ, List.setIfInBounds_toArray, List.set_cons_zero, List.set_cons_succ]
          refine anyH_list #[false, true, true, true, true, true, true, true, true, true, true, true, false, false, false] (by kernel_rfl) ?_
          refine anyC_take 12 (v := (.bool false)) rfl (by kernel_rfl) (by kernel_rfl) (by kernel_rfl) (by kernel_rfl) (fun _ _ _ h => h) (.inl ⟨by rfl, fun X hX => ⟨fun _ _ => trivial, .inl ?_⟩⟩) hS ?_
          · go_simp
          simp only [Act.put, List.getElem_toArray, List.getElem_cons_zero, List.getElem_cons_succ, List.setIfInBounds_toArray, List.set_cons_zero, List.set_cons_succ]
          refine anyH_list #[false, true, true, true, true, true, true, true, true, true, true, true, true, false, false] (by kernel_rfl) ?_
          refine anyH_one 0 (by kernel_rfl) rfl fun K hK => ?_
          go_simp
          refine hK _ _ hS ?_
          clear hK K
          refine anyH_list #[true, true, true, true, true, true, true, true, true, true, true, true, true, false, false] (by kernel_rfl) ?_
          refine anyH_one 13 (by kernel_rfl) rfl fun K hK => ?_
          go_simp
          refine ⟨trivial, rfl, (CallsIn.inRound ll (callsIn_wide.2 (c3 false))).mono ?_⟩
          rintro e w3 ⟨v', rfl, hr3, hG⟩
          obtain ⟨nt, hnt⟩ : ∃ nt, canL p pre ++ putL false x = nt := ⟨_, rfl⟩
          rw [hnt] at hr3
          have HN := Lib.hid hnt
          clear hnt
          obtain ⟨q3, cc3, rfl, _⟩ := row_open hr3
          obtain ⟨hv1, hv2, hr2, hkk⟩ := grown_keep (S := fun b => RB b ∨ Pv b) hbx (by decide) hrow (fun h => h.elim hRn (hnP _ (by omega))) hvn hr3 hG
          have hS3 := ((hG.1 (fun b => b = w.heap.size) (fun b hb h => by have := (hrow.lt b hb).1; omega)).boxed hbp rfl).cell
          have hS4 := (hkk.boxed hbp (.inl (hRo _ (by omega)))).cell
          have hc1 := hv1.cell
          have hf1 := hv1.frozen
          refine hK _ _ hS3 ?_
          clear hK K
          refine anyH_list #[true, true, true, true, true, true, true, true, true, true, true, true, true, true, false] (by kernel_rfl) ?_
          refine anyH_one 14 (by kernel_rfl) rfl fun K hK => ?_
          go_simp
          refine hK _ _ hS4 ?_
          clear hK K
          refine anyH_done (by kernel_rfl) ?_ _
          clear hS3 hc1 hf1 c1 c2 c3
          gi_wp2
          refine ⟨(hkd _).trans hkk, _, hv2, ?_, fun b hb => hge b hb, fun b hb hp => ?_, hKd.trans (hkk.mono fun b _ h => .inl h)⟩
          · rw [can_one, HC.out, HN.out]; exact hr2
          · rcases hG.2 b hb with h | h
            · exact hnv b h hp
            · have h5 := hPl2 _ hp; omega
      · have HC := Lib.hid (show canB p (x, cd) = true by rw [hcb]; rfl)
        clear hcb
        refine anyC_take 1 (v := (.int .u8 (x.toNat : Int))) rfl (by kernel_rfl) (by kernel_rfl) (by kernel_rfl) (by kernel_rfl) (fun _ _ _ h => h) (.inl ⟨by rfl, fun X hX => ⟨fun _ _ => trivial, .inl ?_⟩⟩) hS ?_
        · go_simp
        simp only [Act.put, List.getElem_toArray, List.getElem_cons_zero, List.getElem_cons_succ, List.setIfInBounds_toArray, List.set_cons_zero, List.set_cons_succ]
        refine anyH_list #[false, true, false, false, false, false, false, false, false, false, false, false, false, false, false] (by kernel_rfl) ?_
        refine anyC_take 2 (v := (.int .u8 (x.toNat : Int))) rfl (by kernel_rfl) (by kernel_rfl) (by kernel_rfl) (by kernel_rfl) (fun _ _ _ h => h) (.inl ⟨by rfl, fun X hX => ⟨fun _ _ => trivial, .inl ?_⟩⟩) hS ?_
        · go_simp
        simp only [Act.put, List.getElem_toArray, List.getElem_cons_zero, List.getElem_cons_succ, List.setIfInBounds_toArray, List.set_cons_zero, List.set_cons_succ]
        refine anyH_list #[false, true, true, false, false, false, false, false, false, false, false, false, false, false, false] (by kernel_rfl) ?_
        refine anyC_take 3 (v := (.bool true)) rfl (by kernel_rfl) (by kernel_rfl) (by kernel_rfl) (by kernel_rfl) (fun _ _ _ h => h) (.inl ⟨by rfl, fun X hX => ⟨fun _ _ => trivial, .inr ⟨48, #[.int .u8 (x.toNat : Int)], ?_, (fun h => by cases h), (CallsIn.inRound ll (callsIn_wide.2 (c1 X))).mono (fun _ _ h => ⟨h.1, h.2.symm⟩)⟩⟩⟩) hS ?_
        · go_simp
        simp only [Act.put, List.getElem_toArray, List.getElem_cons_zero, List.getElem_cons_succ, List.setIfInBounds_toArray, List.set_cons_zero, List.set_cons_succ]
        refine anyH_list #[false, true, true, true, false, false, false, false, false, false, false, false, false, false, false] (by kernel_rfl) ?_
        refine anyC_take 4 (v := (.bool true)) rfl (by kernel_rfl) (by kernel_rfl) (by kernel_rfl) (by kernel_rfl) (fun _ _ _ h => h) (.inl ⟨by rfl, fun X hX => ⟨fun _ _ => trivial, .inl ?_⟩⟩) hS ?_
        · go_simp
        simp only [Act.put, List.getElem_toArray, List.getElem_cons_zero, List.getElem_cons_succ, List.setIfInBounds_toArray, List.set_cons_zero, List.set_cons_succ]
        refine anyH_list #[false, true, true, true, true, false, false, false, false, false, false, false, false, false, false] (by kernel_rfl) ?_
        refine anyC_take 5 (v := undef) rfl (by kernel_rfl) (by kernel_rfl) (by kernel_rfl) (by kernel_rfl) (fun _ _ _ h => h) (.inr ⟨by rfl, rfl, fun _ _ _ => trivial⟩) hS ?_
        simp only [Act.put, List.getElem_toArray, List.getElem_cons_zero, List.getElem_cons_succ, List.setIfInBounds_toArray, List.set_cons_zero, List.set_cons_succ]
        refine anyH_list #[false, true, true, true, true, true, false, false, false, false, false, false, false, false, false] (by kernel_rfl) ?_
        refine anyC_take 6 (v := undef) rfl (by kernel_rfl) (by kernel_rfl) (by kernel_rfl) (by kernel_rfl) (fun _ _ _ h => h) (.inr ⟨by rfl, rfl, fun _ _ _ => trivial⟩) hS ?_
        simp only [Act.put, List.getElem_toArray, List.getElem_cons_zero, List.getElem_cons_succ, List.setIfInBounds_toArray, List.set_cons_zero, List.set_cons_succ]
        refine anyH_list #[false, true, true, true, true, true, true, false, false, false, false, false, false, false, false] (by kernel_rfl) ?_
        refine anyC_take 7 (v := undef) rfl (by kernel_rfl) (by kernel_rfl) (by kernel_rfl) (by kernel_rfl) (fun _ _ _ h => h) (.inr ⟨by rfl, rfl, fun _ _ _ => trivial⟩) hS ?_
        simp only [Act.put, List.getElem_toArray, List.getElem_cons_zero, List.getElem_cons_succ, List.setIfInBounds_toArray, List.set_cons_zero, List.set_cons_succ]
        refine anyH_list #[false, true, true, true, true, true, true, true, false, false, false, false, false, false, false] (by kernel_rfl) ?_
        refine anyC_take 8 (v := undef) rfl (by kernel_rfl) (by kernel_rfl) (by kernel_rfl) (by kernel_rfl) (fun _ _ _ h => h) (.inr ⟨by rfl, rfl, fun _ _ _ => trivial⟩) hS ?_
        simp only [Act.put, List.getElem_toArray, List.getElem_cons_zero, List.getElem_cons_succ, List.setIfInBounds_toArray, List.set_cons_zero, List.set_cons_succ]
        refine anyH_list #[false, true, true, true, true, true, true, true, true, false, false, false, false, false, false] (by kernel_rfl) ?_
        refine anyC_take 9 (v := undef) rfl (by kernel_rfl) (by kernel_rfl) (by kernel_rfl) (by kernel_rfl) (fun _ _ _ h => h) (.inr ⟨by rfl, rfl, fun _ _ _ => trivial⟩) hS ?_
        simp only [Act.put, List.getElem_toArray, List.getElem_cons_zero, List.getElem_cons_succ, List.setIfInBounds_toArray, List.set_cons_zero, List.set_cons_succ]
        refine anyH_list #[false, true, true, true, true, true, true, true, true, true, false, false, false, false, false] (by kernel_rfl) ?_
        refine anyC_take 10 (v := undef) rfl (by kernel_rfl) (by kernel_rfl) (by kernel_rfl) (by kernel_rfl) (fun _ _ _ h => h) (.inr ⟨by rfl, rfl, fun _ _ _ => trivial⟩) hS ?_
        simp only [Act.put, List.getElem_toArray, List.getElem_cons_zero, List.getElem_cons_succ, List.setIfInBounds_toArray, List.set_cons_zero, List.set_cons_succ]
        refine anyH_list #[false, true, true, true, true, true, true, true, true, true, true, false, false, false, false] (by kernel_rfl) ?_
        refine anyC_take 11 (v := undef) rfl (by kernel_rfl) (by kernel_rfl) (by kernel_rfl) (by kernel_rfl) (fun _ _ _ h => h) (.inr ⟨by rfl, rfl, fun _ _ _ => trivial⟩) hS ?_
        simp only [Act.put, List.getElem_toArray, List.getElem_cons_zero, List.getElem_cons_succ, List.setIfInBounds_toArray, List.set_cons_zero, List.set_cons_succ]
        refine anyH_list #[false, true, true, true, true, true, true, true, true, true, true, true, false, false, false] (by kernel_rfl) ?_
        refine anyC_take 12 (v := (.bool true)) rfl (by kernel_rfl) (by kernel_rfl) (by kernel_rfl) (by kernel_rfl) (fun _ _ _ h => h) (.inl ⟨by rfl, fun X hX => ⟨fun _ _ => trivial, .inl ?_⟩⟩) hS ?_
        · go_simp
        simp only [Act.put, List.getElem_toArray, List.getElem_cons_zero, List.getElem_cons_succ, List.setIfInBounds_toArray, List.set_cons_zero, List.set_cons_succ]
        refine anyH_list #[false, true, true, true, true, true, true, true, true, true, true, true, true, false, false] (by kernel_rfl) ?_
        refine anyH_one 0 (by kernel_rfl) rfl fun K hK => ?_
        go_simp
        refine hK _ _ hS ?_
        clear hK K
        refine anyH_list #[true, true, true, true, true, true, true, true, true, true, true, true, true, false, false] (by kernel_rfl) ?_
        refine anyH_one 13 (by kernel_rfl) rfl fun K hK => ?_
        go_simp
        refine ⟨trivial, rfl, (CallsIn.inRound ll (callsIn_wide.2 (c3 true))).mono ?_⟩
        rintro e w3 ⟨v', rfl, hr3, hG⟩
        obtain ⟨nt, hnt⟩ : ∃ nt, canL p pre ++ putL true x = nt := ⟨_, rfl⟩
        rw [hnt] at hr3
        have HN := Lib.hid hnt
        clear hnt
        obtain ⟨q3, cc3, rfl, _⟩ := row_open hr3
        obtain ⟨hv1, hv2, hr2, hkk⟩ := grown_keep (S := fun b => RB b ∨ Pv b) hbx (by decide) hrow (fun h => h.elim hRn (hnP _ (by omega))) hvn hr3 hG
        have hS3 := ((hG.1 (fun b => b = w.heap.size) (fun b hb h => by have := (hrow.lt b hb).1; omega)).boxed hbp rfl).cell
        have hS4 := (hkk.boxed hbp (.inl (hRo _ (by omega)))).cell
        have hc1 := hv1.cell
        have hf1 := hv1.frozen
        refine hK _ _ hS3 ?_
        clear hK K
        refine anyH_list #[true, true, true, true, true, true, true, true, true, true, true, true, true, true, false] (by kernel_rfl) ?_
        refine anyH_one 14 (by kernel_rfl) rfl fun K hK => ?_
        go_simp
        refine hK _ _ hS4 ?_
        clear hK K
        refine anyH_done (by kernel_rfl) ?_ _
        clear hS3 hc1 hf1 c1 c2 c3
        gi_wp2
        refine ⟨(hkd _).trans hkk, _, hv2, ?_, fun b hb => hge b hb, fun b hb hp => ?_, hKd.trans (hkk.mono fun b _ h => .inl h)⟩
        · rw [can_one, HC.out, HN.out]; exact hr2
        · rcases hG.2 b hb with h | h
          · exact hnv b h hp
          · have h5 := hPl2 _ hp; omega
    case done =>
      rintro D Pv Wd hD hPD hPl ⟨v, hbx, hrow, hge, hnv, hKW⟩ hK
      have cB := hbx.cell
      clear b0 b1 own0 hb0
      gi_wp2
      refine ⟨by simp, .inl ⟨_, _, rfl, run_takeDeferred hK, ?_⟩⟩
      refine ⟨_, results_tmp2 rfl _ _ _, v, 0, rfl, Lib.hid (by rw [HM.out]; rfl), ?_, ?_⟩
      · rw [HM.out]
        exact row_base ((Keep.putObj (S := fun b => ¬ Pv b) Wd D _ (fun h => h hPD)).row hrow hnv) (by omega)
      · exact (((((hkp (fun b => b < w.heap.size)).trans (hk0 _)).trans (hKW.mono fun b _ h => hRo b (by omega)))).trans (Keep.putObj _ _ _ (by omega))).below (Nat.le_refl _)
    case stop =>
      rintro D c pre rest Pv Wd _ _ _ _ h _
      exact h.elim

end Go.Proofs.YtajojgimbagjoaaDoor.Pct

namespace Go.Proofs.YtajojgimbagjoaaDoor
open Go.RowKit Go.Shelf

theorem lives_lines : linesL [97, 13, 10, 98] = [[97], [98]] := by decide +kernel
theorem lives_tok : tokL [97, 45, 98] = true := by decide +kernel

/-- The example's text, laid; its bytes. -/
theorem bytes_lit {w : World} (cs : Array Value) (l : List UInt8) (fr : Nat × Nat) (h : cs.toList = (Lib.numsL l).map (Value.int .u8)) : Lib.BytesIn (w.alloc (.cells cs 5 fr)) (some ⟨w.heap.size, 0, none⟩) l.length (Lib.numsL l) := fun _ =>
  ⟨_, _, rfl, fun i hi => by
    have hi' : i < (Lib.numsL l).length := by rw [Lib.numsL_length]; exact hi
    rw [Nat.zero_add, World.cell?_alloc_mark, ← Array.getElem?_toList, h]
    simp [List.getElem?_eq_getElem hi', List.getD]⟩
theorem strs_lit {w : World} (cs : Array Value) (l : List (List UInt8)) (h : cs.toList = l.map strV) : StrsIn (w.alloc (.cells cs 9)) (some ⟨w.heap.size, 0, none⟩) l.length l := fun _ =>
  ⟨_, _, rfl, fun i hi => by
    rw [Nat.zero_add, World.cell?_alloc_mark, ← Array.getElem?_toList, h]
    simp [List.getElem?_eq_getElem hi, List.getD]⟩
theorem strs_keep {S : Nat → Prop} {w w' : World} {q : Option Addr} {n : Nat} {xs : List (List UInt8)} (h : StrsIn w q n xs) (hk : Keep S w w') (hq : ∀ a, q = some a → 0 < n → S a.block) : StrsIn w' q n xs := fun h0 => by
  obtain ⟨b, o, rfl, hc⟩ := h h0
  exact ⟨b, o, rfl, fun i hi => (World.cell?_of_block (hk.block b (World.block_lt_of_cell? w _ (hc i hi)) (hq _ rfl h0))).trans (hc i hi)⟩

end Go.Proofs.YtajojgimbagjoaaDoor

namespace Go.Proofs.YtajojgimbagjoaaDoor
open Go.RowKit Go.Shelf

/-- The pieces of a text, out of their bounds. -/
def piecesOf (l : List UInt8) (xs : List (Nat × Nat)) : List (List UInt8) := xs.map fun x => sub l x.1 x.2
theorem piecesOf_snoc (l : List UInt8) (pre : List (Nat × Nat)) (x : Nat × Nat) : piecesOf l (pre ++ [x]) = piecesOf l pre ++ [sub l x.1 x.2] := by simp [piecesOf]
theorem sub_snoc (l : List UInt8) (f k : Nat) (hf : f ≤ k) (hk : k < l.length) : sub l f (k + 1) = sub l f k ++ [l.getD k 0] := by
  unfold sub
  rw [show k + 1 - f = (k - f) + 1 from by omega, List.take_succ_eq_append_getElem (by simp; omega)]
  simp [List.getD, List.getElem?_eq_getElem hk]
  congr 1
  omega
theorem sub_nil (l : List UInt8) (k : Nat) : sub l k k = [] := by unfold sub; simp

theorem ba_app (x s : ByteArray) (k : Nat) (h : k < s.size) : (x ++ s.extract k (k + 1)).data.toList = x.data.toList ++ [s[k]] := by
  rw [ByteArray.data_append, ByteArray.data_extract, Array.toList_append, Array.toList_extract]
  congr 1
  rw [ba_get s k h]
  have h' : k < s.data.toList.length := h
  simp [List.extract, List.getD, List.getElem?_eq_getElem h', List.take_one, List.head?_drop]

end Go.Proofs.YtajojgimbagjoaaDoor

namespace Go.Proofs.YtajojgimbagjoaaDoor
open Go.RowKit Go.Shelf

theorem splitOf_len (l : List UInt8) (xs : List (Nat × Nat)) : (splitOf l xs).length = xs.length := by simp [splitOf]
theorem splitX_num (c : UInt8) (l : List UInt8) (pre : List (Nat × List UInt8)) (x : Nat × List UInt8) (rest : List (Nat × List UInt8)) (h : splitX c l = pre ++ x :: rest) : x.1 = pre.length := by
  have h1 : (splitX c l)[pre.length]? = some x := by rw [h]; simp
  unfold splitX splitOf at h1
  rw [List.getElem?_map, List.getElem?_zipIdx] at h1
  cases hx : (spansL (isB c) l)[pre.length]? with
  | none => rw [hx] at h1; simp at h1
  | some y => rw [hx] at h1; simp at h1; rw [← h1]
theorem splitX_pieces (c : UInt8) (l : List UInt8) : (splitX c l).map strN = (piecesOf l (spansL (isB c) l)).map strV := by
  unfold splitX splitOf piecesOf
  simp only [List.map_map]
  apply List.ext_getElem?
  intro i
  simp only [List.getElem?_map, List.getElem?_zipIdx]
  cases (spansL (isB c) l)[i]? <;> rfl
theorem splitX_small (c : UInt8) (l : List UInt8) (n : Nat) (h : l.length = n) : ∀ x ∈ splitX c l, x.2.length ≤ n := by
  intro x hx
  unfold splitX splitOf at hx
  obtain ⟨y, hy, rfl⟩ := List.mem_map.1 hx
  have hb := spansL_bounds (isB c) l y.1 (List.fst_mem_of_mem_zipIdx hy)
  simp only
  rw [sub_length _ _ _ hb.2]
  omega
theorem splitX_len (c : UInt8) (l : List UInt8) : (splitX c l).length ≤ l.length + 1 := by
  unfold splitX
  rw [splitOf_len]
  exact spansGo_len _ _ _ _

theorem Split_iter {w w' : World} {B n : Nat} {c : UInt8} {v' : Value} {l : List UInt8} (hn : n ≤ 140737488355328) (hB : Boxed w' B 22 v') (hBc : Boxed w' w.heap.size 5 (.int .u8 (c.toNat : Int))) (hrow : w'.ownsRow (w.heap.size + 1) 5 1 v' n ((Lib.numsL l).map (Value.int .u8))) :
    IterC Tryd.prog 71 #[.pointer (some ⟨B, 0, none⟩), .pointer (some ⟨w.heap.size, 0, none⟩)] NumRowArg (splitX c l) (fun b => b = B ∨ b = w.heap.size ∨ v'.ownBlock = some b) w' := by
  obtain ⟨q, cc, rfl, hl, hnc, _, hbs, hblk⟩ := row_open hrow
  exact Split1_iter B w.heap.size c q n cc l _ w' hl hn hnc hbs (fun a ha _ => .inr (.inr (hblk a ha).2.2)) hB (.inl rfl) hBc (.inr (.inl rfl)) (fun b hb => by
    rcases hb with rfl | rfl | hb
    · exact hB.lt
    · exact hBc.lt
    · exact (hrow.lt b hb).2)

theorem info_u8 : (Tryd.prog.info? 5).map (fun i => (i.zero, i.size, i.bytes)) = some (some (.int .u8 0), 1, 1) := by kernel_rfl

theorem sameL_self (xs : List (List UInt8)) : sameL xs xs = true := by unfold sameL; simp

/-- 'append(dst, src...)', dst the call's own, src whatever slice of bytes. -/
theorem wpList_append_bytes {ops : Array Oper} {rest : List Oper} {o : Oper} {a : Act} {w : World} {Q : Exit → Act → World → Prop} (hgd : o.guard = none) (s x : Operand)
    (ho : o.op = .call { callee := .builtin .append, args := #[s, x], argTypes := #[22, 22] })
    (base : Nat) (v : Value) (n : Nat) (xs : List Value) (hs : a.eval s = v) (hown : w.ownsRow base 5 1 v n xs) (p : Option Addr) (m c : Nat) (bs : List UInt8) (hx : a.eval x = .slice p m c) (hp : p = none → m = 0 ∧ c = 0)
    (hl : bs.length = m) (hb : Lib.BytesIn w p m (Lib.numsL bs)) (h47 : n + m ≤ 140737488355328) (hbase : base ≤ w.heap.size)
    (h : ∀ v' w', w'.ownsRow base 5 1 v' (n + m) (xs ++ (Lib.numsL bs).map (Value.int .u8)) → w.grownBy w' v.ownBlock → wpList Tryd.prog ops Q rest (a.put o.dst v') w') : wpList Tryd.prog ops Q (o :: rest) a w := by
  obtain ⟨i0, hi0, hz0, hz1, hz2⟩ := info_parts info_u8
  cases p with
  | none =>
    obtain ⟨rfl, rfl⟩ := hp rfl
    obtain rfl : bs = [] := List.eq_nil_of_length_eq_zero hl
    refine wpList_append_own_none hgd s x _ ho base 5 i0 1 Tryd.underlying22 hi0 v n xs hs hown hx (h v w ?_ ⟨rfl, rfl, rfl, Nat.le_refl _, fun _ _ _ => rfl⟩)
    simpa [Lib.numsL] using hown
  | some ad =>
    refine wpList_append_own w hgd s x _ ho base 5 i0 (.int .u8 0) 1 1 Tryd.underlying22 hi0 hz0 hz1 hz2 rfl (by decide) v n xs hs hown ad m c ((Lib.numsL bs).map (Value.int .u8)) hx (by simp [Lib.numsL, hl]) (fun j u hj => ?_) (by simp [Lib.numsL, Value.oneCell']) (by unfold maxLen; omega) (by omega) hbase (fun v' w' h1 h2 _ => h v' w' h1 h2)
    rcases Nat.lt_or_ge j m with h' | h'
    · obtain ⟨b, o, he, hcc⟩ := hb.at (by omega)
      cases he
      have hj' : j < (Lib.numsL bs).length := by rw [Lib.numsL_length]; omega
      rw [Go.WideShapes.add_plain, hcc j h']
      rw [List.getElem?_map, List.getElem?_eq_getElem hj'] at hj
      simp only [Option.map_some, Option.some.injEq] at hj
      rw [← hj, List.getD, List.getElem?_eq_getElem hj']
      rfl
    · rw [List.getElem?_eq_none (by rw [List.length_map, Lib.numsL_length]; omega)] at hj
      cases hj

end Go.Proofs.YtajojgimbagjoaaDoor

namespace Go.Proofs.YtajojgimbagjoaaDoor
open Go.RowKit Go.Shelf

/-- A text with small letters. -/
def lowL (l : List UInt8) : List UInt8 := l.map low
theorem lowL_length (l : List UInt8) : (lowL l).length = l.length := by simp [lowL]
theorem lowL_getD (l : List UInt8) (k : Nat) (h : k < l.length) : (lowL l).getD k 0 = low (l.getD k 0) := by simp [lowL, List.getD, List.getElem?_eq_getElem h]
theorem low_low (b : UInt8) : low (low b) = low b := by
  by_cases h : 65 ≤ b.toNat ∧ b.toNat ≤ 90
  · have h1 := low_hi b h.1 h.2
    exact low_lo (low b) (by omega)
  · rw [low_lo b h]
    exact low_lo b h
theorem lowL_lowL (l : List UInt8) : lowL (lowL l) = lowL l := by
  unfold lowL
  rw [List.map_map]
  apply List.map_congr_left
  intro b _
  exact low_low b

set_option maxRecDepth 100000 in
set_option maxHeartbeats 2000000 in
theorem Lower_any (q : Option Addr) (n c : Nat) (l : List UInt8) (w : World) (hl : l.length = n) (hn : n ≤ 140737488355328) (hb : Lib.BytesIn w q n (Lib.numsL l)) :
    Calls Tryd.prog 27 #[.slice q n c] w fun e w' => ∃ v', e = .returned v' ∧ w'.ownsRow w.heap.size 5 1 v' n ((Lib.numsL (lowL l)).map (Value.int .u8)) ∧ Below w.heap.size w w' := by
  obtain ⟨i0, hi0, hz0, hz1, hz2⟩ := info_parts info_u8
  have HL := Lib.hid hl
  clear hl
  go_enter Tryd.func27, Tryd.ntmps27
  go_wp2_with (at_make; refine wpList_make_full _ rfl _ _ 22 rfl w.heap.size 5 i0 (.int .u8 0) 1 Tryd.underlying22 hi0 hz0 hz1 .i64 .i64 _ _ n rfl rfl rfl rfl (by rw [hz2]; omega) (by unfold maxLen; omega) (Nat.le_refl _) ?_; intro w1 hown hgrow)
  have hbel : Below w.heap.size w w1 := (Below.refl _ _).grown hgrow (Nat.le_refl _) (fun _ h => by cases h)
  obtain ⟨cur0, hg0, hs0⟩ : ∃ cur, w1.heap[w.heap.size]? = some (.cells cur 5 (0, 0)) ∧ cur.size = n := by
    rcases hown.2 with ⟨h1, _⟩ | ⟨g, cap, cur, h1, _, hg, _, _, h3, _⟩
    · cases h1
    · cases h1; exact ⟨cur, hg, by simpa using h3⟩
  clear hown hgrow
  go_loopw [11] (fun i wr => ∃ k : Nat, ∃ cur : Array Value, k ≤ n ∧ i = .int .i64 k ∧ Below w.heap.size w wr ∧ wr.heap[w.heap.size]? = some (.cells cur 5 (0, 0)) ∧ Hid (cur.size = n) ∧ Hid (∀ j, j < k → cur[j]? = some (.int .u8 ((low (l.getD j 0)).toNat : Int)))) (fun i _ => n - (intOf i).toNat)
  case atStart => exact ⟨0, cur0, Nat.zero_le _, rfl, hbel, hg0, hs0, fun j hj => absurd hj (Nat.not_lt_zero _)⟩
  case round =>
    obtain ⟨k, cur, hk, rfl, hbr, hg, HS, HC⟩ := hrel
    by_cases hlt : k < n
    · obtain ⟨b, o, rfl, hc⟩ := hb.at (by omega)
      have hck : wr.cell? ⟨b, o + k, none⟩ = some (.int .u8 ((l.getD k 0).toNat : Int)) := by
        rw [← numsL_getD l k (by rw [HL.out]; exact hlt), ← hc k hlt]
        exact hbr.cell (World.block_lt_of_cell? w _ (hc k hlt))
      have hkc : k < cur.size := by rw [HS.out]; exact hlt
      have hgk : wr.cell? ⟨w.heap.size, k, none⟩ = some cur[k] := by simp [World.cell?, hg, Array.getElem?_eq_getElem hkc]
      have hfk : wr.frozen? ⟨w.heap.size, k, none⟩ = false := by simp [World.frozen?, hg]
      have HG := Lib.hid hg
      obtain ⟨bk, HB⟩ : ∃ bk, Hid (bk = l.getD k 0) := ⟨_, rfl⟩
      rw [← HB.out] at hck
      have hk1 := lowerByte_any bk
      obtain ⟨y, HY⟩ : ∃ y, Hid (y = low bk) := ⟨_, rfl⟩
      rw [← HY.out] at hk1
      clear hc hb hg
      generalize cur[k] = cv at hgk
      go_wp2_with (go_at_call 38; refine (hk1 _).mono ?_; rintro e w' ⟨rfl, rfl⟩)
      go_roundw
      case rel =>
        refine ⟨k + 1, cur.setIfInBounds k (.int .u8 (y.toNat : Int)), by omega, by go_num, hbr.setCell (p := ⟨w.heap.size, k, none⟩) (Nat.le_refl _) _, Joins.block_setCell HG.out _, ?_, fun j hj => ?_⟩
        · show (cur.setIfInBounds k _).size = n
          rw [Array.size_setIfInBounds]; exact HS.out
        · by_cases hjk : j = k
          · subst hjk
            rw [Array.getElem?_setIfInBounds_self_of_lt hkc, HY.out, HB.out]
          · rw [Array.getElem?_setIfInBounds_ne (Ne.symm hjk)]
            exact HC.out j (by omega)
      case measure => simp [intOf]; omega
    · have hkn : k = n := by omega
      have hrow : wr.ownsRow w.heap.size 5 1 (.slice (some ⟨w.heap.size, 0, none⟩) n n) n ((Lib.numsL (lowL l)).map (Value.int .u8)) := by
        refine ⟨by rw [List.length_map, Lib.numsL_length, lowL_length, HL.out, Nat.mul_one], .inr ⟨w.heap.size, n, cur, rfl, Nat.le_refl _, hg, Nat.le_refl _, by unfold maxLen; omega, by rw [HS.out, Nat.mul_one], ?_⟩⟩
        have hcs := HS.out
        have hll := HL.out
        apply List.ext_getElem?
        intro j
        rw [Nat.mul_one, List.take_of_length_le (by rw [Array.length_toList, hcs]; exact Nat.le_refl _), Array.getElem?_toList]
        rcases Nat.lt_or_ge j n with hj | hj
        · have hj' : j < (Lib.numsL (lowL l)).length := by rw [Lib.numsL_length, lowL_length, hll]; exact hj
          have hn1 := numsL_getD (lowL l) j (by rw [lowL_length, hll]; exact hj)
          rw [lowL_getD l j (by rw [hll]; exact hj), List.getD, List.getElem?_eq_getElem hj', Option.getD_some] at hn1
          rw [HC.out j (by omega), List.getElem?_map, List.getElem?_eq_getElem hj', Option.map_some, hn1]
        · rw [Array.getElem?_eq_none (by omega), List.getElem?_eq_none (by rw [List.length_map, Lib.numsL_length, lowL_length, hll]; exact hj)]
      clear HS HC hg hkn
      go_wp2
      go_ret
      exact ⟨_, rfl, hrow, hbr⟩

/-- Equal but for great and small letters. -/
def sameLow (x y : List UInt8) : Bool := decide (lowL x = lowL y)

theorem Same1_any (a b : UInt8) (w : World) : Calls Tryd.prog 37 #[.int .u8 (a.toNat : Int), .int .u8 (b.toNat : Int)] w fun e w' => e = .returned (.bool (isB (low b) (low a))) ∧ w = w' := by
  have h1 := lowerByte_any a
  have h2 := lowerByte_any b
  have hx := u8_lt (low a)
  have hy := u8_lt (low b)
  generalize low a = x at *
  generalize low b = y at *
  have H := Lib.hid (show isB y x = ((x.toNat : Int) == (y.toNat : Int)) by unfold isB; rw [Bool.eq_iff_iff, beq_iff_eq, beq_iff_eq, ← UInt8.toNat_inj]; omega)
  go_enter Tryd.func37, Tryd.ntmps37
  go_wp2_with fail
  refine (h1 _).mono ?_
  rintro e w' ⟨rfl, rfl⟩
  go_wp2_with fail
  refine (h2 _).mono ?_
  rintro e w' ⟨rfl, rfl⟩
  go_wp2
  go_ret
  exact ⟨(by rw [H.out]; try rfl), rfl⟩

set_option maxRecDepth 100000 in
set_option maxHeartbeats 2000000 in
theorem EqualFunc_any (p1 p2 : Option Addr) (n c m d : Nat) (xs ys : List UInt8) (w : World) (hx : xs.length = n) (hy : ys.length = m) (hn : n ≤ 140737488355328) (hm : m ≤ 140737488355328) (h1 : Lib.BytesIn w p1 n (Lib.numsL xs)) (h2 : Lib.BytesIn w p2 m (Lib.numsL ys)) :
    Calls Tryd.prog 36 #[.slice p1 n c, .slice p2 m d, .func (.func 37) #[] #[]] w fun e w' => e = .returned (.bool (sameLow xs ys)) ∧ w = w' := by
  by_cases hnm : n = m
  · subst hnm
    have e0 : ((n : Int) != (n : Int)) = false := by simp
    go_enter Tryd.func36, Tryd.ntmps36
    go_wp2
    go_loop [17] (fun i => ∃ k : Nat, k ≤ n ∧ i = .int .i64 k ∧ Hid (sameLow xs ys = sameLow (xs.drop k) (ys.drop k))) (fun i => n - (intOf i).toNat)
    case atStart => exact ⟨0, Nat.zero_le _, rfl, rfl⟩
    case round =>
      obtain ⟨k, hk, rfl, HR⟩ := hrel
      by_cases hlt : k < n
      · obtain ⟨b1, o1, rfl, hc1⟩ := h1.at (by omega)
        obtain ⟨b2, o2, rfl, hc2⟩ := h2.at (by omega)
        have c1 := hc1 k hlt
        have c2 := hc2 k hlt
        rw [numsL_getD _ _ (by omega)] at c1 c2
        have d1 := drop_cons xs k (by omega)
        have d2 := drop_cons ys k (by omega)
        clear hc1 hc2 h1 h2 e0
        generalize xs.getD k 0 = x at c1 d1
        generalize ys.getD k 0 = y at c2 d2
        have hs := Same1_any x y w
        by_cases hxy : low x = low y
        · have HR2 := Lib.hid (show sameLow xs ys = sameLow (xs.drop (k + 1)) (ys.drop (k + 1)) by rw [HR.out, d1, d2]; unfold sameLow lowL; simp [hxy])
          rw [show isB (low y) (low x) = true from by unfold isB; rw [beq_iff_eq]; exact hxy] at hs
          clear d1 d2 HR hxy
          go_wp2_with (go_at_call 37; refine hs.mono ?_; rintro e w' ⟨rfl, hw⟩; subst hw)
          go_round
          case rel => exact ⟨k + 1, by omega, by go_num, HR2⟩
          case measure => simp [intOf]; omega
        · have H := Lib.hid (show sameLow xs ys = false by rw [HR.out, d1, d2]; unfold sameLow lowL; simp [hxy])
          rw [show isB (low y) (low x) = false from by unfold isB; rw [beq_eq_false_iff_ne]; exact hxy] at hs
          clear d1 d2 HR hxy
          go_wp2_with (go_at_call 37; refine hs.mono ?_; rintro e w' ⟨rfl, hw⟩; subst hw)
          go_ret
          exact ⟨(by rw [H.out]; try rfl), rfl⟩
      · have H := Lib.hid (show sameLow xs ys = true by rw [HR.out, List.drop_of_length_le (by omega), List.drop_of_length_le (by omega)]; rfl)
        clear HR
        go_wp2
        go_ret
        exact ⟨(by rw [H.out]; try rfl), rfl⟩
  · have e0 : ((n : Int) != (m : Int)) = true := by rw [bne_iff_ne]; omega
    have H := Lib.hid (show sameLow xs ys = false by unfold sameLow; rw [decide_eq_false_iff_not]; intro h; apply hnm; rw [← hx, ← hy, ← lowL_length xs, ← lowL_length ys, h])
    go_enter Tryd.func36, Tryd.ntmps36
    go_wp2
    go_ret
    exact ⟨(by rw [H.out]; try rfl), rfl⟩

theorem cutSame_any (p1 p2 : Option Addr) (n c m d : Nat) (xs ys : List UInt8) (w : World) (hx : xs.length = n) (hy : ys.length = m) (hn : n ≤ 140737488355328) (hm : m ≤ 140737488355328) (h1 : Lib.BytesIn w p1 n (Lib.numsL xs)) (h2 : Lib.BytesIn w p2 m (Lib.numsL ys)) :
    Calls Tryd.prog 23 #[.slice p1 n c, .slice p2 m d] w fun e w' => e = .returned (.bool (sameLow xs ys)) ∧ w = w' := by
  have con := EqualFunc_any p1 p2 n c m d xs ys w hx hy hn hm h1 h2
  clear h1 h2
  go_enter Tryd.func23, Tryd.ntmps23
  go_wp2_with (go_at_call 36; refine con.mono ?_; rintro e w' ⟨rfl, rfl⟩)
  go_ret
  exact ⟨rfl, rfl⟩

end Go.Proofs.YtajojgimbagjoaaDoor

namespace Go.Proofs.YtajojgimbagjoaaDoor
open Go.RowKit Go.Shelf

theorem letters_list (b : UInt8) : (inB b [97, 98, 99, 100, 101, 102, 103, 104, 105, 106, 107, 108, 109, 110, 111, 112, 113, 114, 115, 116, 117, 118, 119, 120, 121, 122] || inB b [65, 66, 67, 68, 69, 70, 71, 72, 73, 74, 75, 76, 77, 78, 79, 80, 81, 82, 83, 84, 85, 86, 87, 88, 89, 90]) = letB b := by
  have h : ∀ b : Fin 256, (inB (UInt8.ofNat b.1) [97, 98, 99, 100, 101, 102, 103, 104, 105, 106, 107, 108, 109, 110, 111, 112, 113, 114, 115, 116, 117, 118, 119, 120, 121, 122] || inB (UInt8.ofNat b.1) [65, 66, 67, 68, 69, 70, 71, 72, 73, 74, 75, 76, 77, 78, 79, 80, 81, 82, 83, 84, 85, 86, 87, 88, 89, 90]) = letB (UInt8.ofNat b.1) := by decide +kernel
  have h1 := h ⟨b.toNat, u8_lt b⟩
  rwa [UInt8.ofNat_toNat] at h1

theorem all_tok_drop (l : List UInt8) (k : Nat) (h : k < l.length) : (l.drop k).all tokB = ((digitB (l.getD k 0) || letB (l.getD k 0) || inB (l.getD k 0) marksL) && (l.drop (k + 1)).all tokB) := by
  rw [all_drop l k h]
  congr 1
  unfold tokB
  cases letB (l.getD k 0) <;> cases digitB (l.getD k 0) <;> rfl

/-- Ahead of the first b, and behind it. -/
def atI (b : UInt8) (l : List UInt8) : Int := Lib.indexByte l b

theorem index_at : ∀ (l : List UInt8) (c : UInt8) (k : Nat), k < l.length → l.getD k 0 = c → (∀ j, j < k → l.getD j 0 ≠ c) → Lib.indexByte l c = (k : Int)
  | [], _, k, h, _, _ => absurd h (Nat.not_lt_zero k)
  | x :: r, c, 0, _, h, _ => by
    have : x = c := h
    subst this
    simp [Lib.indexByte]
  | x :: r, c, k + 1, h, hk, hj => by
    have hx : x ≠ c := hj 0 (Nat.succ_pos k)
    have ih := index_at r c k (by simpa using h) hk (fun j hjk => hj (j + 1) (by omega))
    unfold Lib.indexByte
    rw [if_neg (by simpa using hx), ih]
    simp
theorem index_no : ∀ (l : List UInt8) (c : UInt8), (∀ j, j < l.length → l.getD j 0 ≠ c) → Lib.indexByte l c = -1
  | [], _, _ => rfl
  | x :: r, c, h => by
    have hx : x ≠ c := h 0 (Nat.succ_pos _)
    have ih := index_no r c (fun j hj => h (j + 1) (by simpa using hj))
    unfold Lib.indexByte
    rw [if_neg (by simpa using hx), ih]
    simp

def atFst (b : UInt8) (l : List UInt8) : List UInt8 := if 0 ≤ Lib.indexByte l b then l.take (Lib.indexByte l b).toNat else l
def atSnd (b : UInt8) (l : List UInt8) : List UInt8 := if 0 ≤ Lib.indexByte l b then l.drop ((Lib.indexByte l b).toNat + 1) else []
def atOk (b : UInt8) (l : List UInt8) : Bool := decide (0 ≤ Lib.indexByte l b)
theorem at_found (b : UInt8) (l : List UInt8) (k : Nat) (h : Lib.indexByte l b = (k : Int)) : atFst b l = l.take k ∧ atSnd b l = l.drop (k + 1) ∧ atOk b l = true := by
  unfold atFst atSnd atOk
  rw [h]
  simp
theorem at_none (b : UInt8) (l : List UInt8) (h : Lib.indexByte l b = -1) : atFst b l = l ∧ atSnd b l = [] ∧ atOk b l = false := by
  unfold atFst atSnd atOk
  rw [h]
  simp
theorem ext_take (s : ByteArray) (k : Nat) : (s.extract 0 k).data.toList = s.data.toList.take k := by
  rw [ByteArray.data_extract, Array.toList_extract]
  simp [List.extract]
theorem ext_drop (s : ByteArray) (k : Nat) : (s.extract k s.size).data.toList = s.data.toList.drop k := by
  rw [ByteArray.data_extract, Array.toList_extract]
  show (s.data.toList.drop k).take (s.size - k) = _
  rw [List.take_of_length_le (by rw [List.length_drop, ba_len]; exact Nat.le_refl _)]

theorem abc_low (b : UInt8) (h1 : 65 ≤ b.toNat) (h2 : b.toNat ≤ 90) (x : ByteArray) :
    (x ++ (ByteArray.extract ⟨#[97, 98, 99, 100, 101, 102, 103, 104, 105, 106, 107, 108, 109, 110, 111, 112, 113, 114, 115, 116, 117, 118, 119, 120, 121, 122]⟩ (b.toNat - 65) (b.toNat - 64))).data.toList = x.data.toList ++ [low b] := by
  have h : ∀ i : Fin 26, (ByteArray.extract ⟨#[97, 98, 99, 100, 101, 102, 103, 104, 105, 106, 107, 108, 109, 110, 111, 112, 113, 114, 115, 116, 117, 118, 119, 120, 121, 122]⟩ (i.1 + 65 - 65) (i.1 + 65 - 64)).data.toList = [low (UInt8.ofNat (i.1 + 65))] := by decide +kernel
  have h3 := h ⟨b.toNat - 65, by omega⟩
  simp only [show b.toNat - 65 + 65 = b.toNat from by omega] at h3
  rw [UInt8.ofNat_toNat] at h3
  rw [ByteArray.data_append, Array.toList_append, h3]

theorem lowL_take (l : List UInt8) (k : Nat) (h : k < l.length) : lowL (l.take (k + 1)) = lowL (l.take k) ++ [low (l.getD k 0)] := by
  show (l.take (k + 1)).map low = (l.take k).map low ++ _
  rw [List.take_succ_eq_append_getElem h, List.map_append]
  congr 1
  simp [List.getD, List.getElem?_eq_getElem h]

end Go.Proofs.YtajojgimbagjoaaDoor

namespace Go.Proofs.YtajojgimbagjoaaDoor

theorem piecesOf_cons (l : List UInt8) (x : Nat × Nat) (r : List (Nat × Nat)) : piecesOf l (x :: r) = sub l x.1 x.2 :: piecesOf l r := rfl
theorem pieces_go (c : UInt8) (l : List UInt8) : ∀ (r : List UInt8) (i f : Nat), l.drop i = r → f ≤ i → i ≤ l.length → piecesOf l (spansGo (isB c) r i f) = Ref.onto (sub l f i) (Ref.splitL c r)
  | [], i, f, _, _, _ => by
    unfold spansGo
    rw [piecesOf_cons]
    simp [piecesOf, Ref.splitL, Ref.onto]
  | b :: r, i, f, hd, hf, hi => by
    have hlt : i < l.length := by
      rcases Nat.lt_or_ge i l.length with h | h
      · exact h
      · rw [List.drop_of_length_le h] at hd; cases hd
    have hdc := drop_cons l i hlt
    rw [hd] at hdc
    simp only [List.cons.injEq] at hdc
    have hb : b = l.getD i 0 := hdc.1
    have hr : l.drop (i + 1) = r := hdc.2.symm
    by_cases h : b = c
    · have hp : isB c b = true := by unfold isB; rw [beq_iff_eq]; exact h
      have e : spansGo (isB c) (b :: r) i f = (f, i) :: spansGo (isB c) r (i + 1) (i + 1) := by conv => lhs; unfold spansGo; rw [if_pos hp]
      rw [e, piecesOf_cons, pieces_go c l r (i + 1) (i + 1) hr (Nat.le_refl _) hlt, sub_nil, h, Ref.split_is, Ref.onto_nil _ (Ref.split_ne c r)]
      simp [Ref.onto]
    · have hp : ¬ isB c b = true := by unfold isB; rw [beq_iff_eq]; exact h
      have e : spansGo (isB c) (b :: r) i f = spansGo (isB c) r (i + 1) f := by conv => lhs; unfold spansGo; rw [if_neg hp]
      rw [e, pieces_go c l r (i + 1) f hr (by omega) hlt, sub_snoc l f i hf hlt, Ref.split_not c b r h, ← hb, Ref.onto_onto _ _ _ (Ref.split_ne c r)]
theorem pieces_split (c : UInt8) (l : List UInt8) : piecesOf l (spansL (isB c) l) = Ref.splitL c l := by
  unfold spansL
  rw [pieces_go c l l 0 0 (List.drop_zero) (Nat.le_refl _) (Nat.zero_le _), sub_nil, Ref.onto_nil _ (Ref.split_ne c l)]

theorem digit_dec (b : UInt8) : digitB b = Ref.decB b := rfl
theorem low_ref (b : UInt8) : low b = Ref.low b := rfl
theorem lowL_ref (l : List UInt8) : lowL l = Ref.lowL l := rfl
theorem let_ref (b : UInt8) : letB b = Ref.letB b := Ref.all_u8 (p := fun b => letB b = Ref.letB b) (by decide +kernel) b
theorem numGo_ref (most : Int) : ∀ (l : List UInt8) (n : Int), numGo most l n = Ref.numGo most l n
  | [], _ => rfl
  | b :: r, n => by
    unfold numGo Ref.numGo
    rw [digit_dec, numGo_ref most r]
theorem numOf_ref (most : Int) (l : List UInt8) : numOf most l = Ref.numOf most l := by
  unfold numOf Ref.numOf
  rw [numGo_ref]

end Go.Proofs.YtajojgimbagjoaaDoor

namespace Go.Proofs.YtajojgimbagjoaaDoor
open Go.RowKit Go.Shelf

theorem bytesOf_numsL (l : List UInt8) : Lib.bytesOf (Lib.numsL l) = l := by
  unfold Lib.bytesOf Lib.numsL
  rw [List.map_map]
  conv => rhs; rw [← List.map_id l]
  apply List.map_congr_left
  intro b _
  simp

theorem IndexByte_any (q : Option Addr) (n c : Nat) (l : List UInt8) (b : UInt8) (w : World) (hl : l.length = n) (hq : q = none → n = 0 ∧ c = 0) (h : Lib.BytesIn w q n (Lib.numsL l)) :
    Calls Tryd.prog 39 #[.slice q n c, .int .u8 (b.toNat : Int)] w fun e w' => e = .returned (.int .i64 (Lib.indexByte l b)) ∧ w' = w := by
  cases q with
  | none =>
    obtain ⟨rfl, rfl⟩ := hq rfl
    obtain rfl : l = [] := List.eq_nil_of_length_eq_zero hl
    exact Tryd.bytes_IndexByte_nil (b.toNat : Int) w
  | some a =>
    have h1 := Tryd.bytes_IndexByte_at a n c (Lib.numsL l) (b.toNat : Int) w (by rw [Lib.numsL_length, hl]) (fun i hi => by
      obtain ⟨b', o, he, hc⟩ := h.at (by omega)
      cases he
      rw [Go.WideShapes.add_plain]
      exact hc i hi)
    rw [bytesOf_numsL, show (b.toNat : Int).toNat.toUInt8 = b from by simp] at h1
    exact h1

theorem index_lt : ∀ (l : List UInt8) (c : UInt8), Lib.indexByte l c < (l.length : Int)
  | [], _ => by simp [Lib.indexByte]
  | x :: r, c => by
    have ih := index_lt r c
    unfold Lib.indexByte
    split
    · simp
    · simp only [beq_iff_eq]
      split <;> simp <;> omega

theorem run_slice_to (q : Option Addr) (n c j : Nat) (W : World) (hj : j ≤ c) :
    (Instr.slice 22 (.slice q n c) none (some (.int .i64 (j : Int))) none).run Tryd.prog W = .ok (.slice (subA q c 0) j c) W := by
  have hs : ∀ w, (Go.sizeOf 5).run Tryd.prog w = .ok 1 w := Tryd.sizeOf5
  have he : Tryd.prog.elem 22 = 5 := by kernel_rfl
  have h := run_slice_h (P := Tryd.prog) (w := W) 22 q n c (by rw [he]; exact Tryd.underlying22) .i64 j (by omega) (by omega)
  rw [h, he, hs]
  simp [Result.andThen, sliced, subA]

theorem run_slice_from (q : Option Addr) (n c i : Nat) (W : World) (hi : i + 1 ≤ n) :
    (Instr.slice 22 (.slice q n c) (some (.int .i64 ((i : Int) + 1))) none none).run Tryd.prog W = .ok (.slice (subA q c (i + 1)) (n - (i + 1)) (c - (i + 1))) W := by
  have hs : ∀ w, (Go.sizeOf 5).run Tryd.prog w = .ok 1 w := Tryd.sizeOf5
  have he : Tryd.prog.elem 22 = 5 := by kernel_rfl
  have h := run_slice_l (P := Tryd.prog) (w := W) 22 q n c (by rw [he]; exact Tryd.underlying22) .i64 ((i : Int) + 1) (by omega) (by omega)
  rw [h, he, hs]
  simp only [Result.andThen, sliced, subA, Nat.mul_one, show ((i : Int) + 1).toNat = i + 1 from by omega]

theorem sub_to (l : List UInt8) (k : Nat) : sub l 0 k = l.take k := by unfold sub; simp
theorem sub_from (l : List UInt8) (k : Nat) : sub l k l.length = l.drop k := by unfold sub; rw [List.take_of_length_le (by simp)]

set_option maxRecDepth 100000 in
set_option maxHeartbeats 8000000 in
theorem At_any (q : Option Addr) (n c : Nat) (l : List UInt8) (b : UInt8) (w : World) (hl : l.length = n) (hn : n ≤ 1099511627775) (hcp : n ≤ c) (hq : q = none → n = 0 ∧ c = 0) (h : Lib.BytesIn w q n (Lib.numsL l)) :
    Calls Tryd.prog 24 #[.slice q n c, .int .u8 (b.toNat : Int)] w fun e w' => ∃ v1 v2, e = .returned (.tuple #[v1, v2, .bool (atOk b l)]) ∧
      w'.ownsRow w.heap.size 5 1 v1 (atFst b l).length ((Lib.numsL (atFst b l)).map (Value.int .u8)) ∧
      w'.ownsRow w.heap.size 5 1 v2 (atSnd b l).length ((Lib.numsL (atSnd b l)).map (Value.int .u8)) ∧ Below w.heap.size w w' := by
  have hix := IndexByte_any q n c l b w hl hq h
  have hge := Lib.indexByte_ge l b
  have hlt := index_lt l b
  by_cases h0 : 0 ≤ Lib.indexByte l b
  · obtain ⟨k, hk⟩ : ∃ k : Nat, Lib.indexByte l b = (k : Int) := ⟨(Lib.indexByte l b).toNat, by omega⟩
    obtain ⟨e1, e2, e3⟩ := at_found b l k hk
    rw [hk] at hix hlt
    have hkn : k < n := by omega
    rw [e1, e2, e3]
    have hb1 := bytes_sub h hl (Nat.zero_le k) (by omega) hcp
    have hb2 := bytes_sub h hl (show k + 1 ≤ n from hkn) (Nat.le_refl n) hcp
    have hs2 : sub l (k + 1) n = l.drop (k + 1) := by rw [← hl]; exact sub_from l (k + 1)
    rw [sub_to, Nat.sub_zero] at hb1
    rw [hs2] at hb2
    have hl1 : (l.take k).length = k := by rw [List.length_take]; omega
    have hl2 : (l.drop (k + 1)).length = n - (k + 1) := by rw [List.length_drop]; omega
    have hwr : IntKind.i64.wrap ((k : Int) + 1) = (k : Int) + 1 := by rw [IntKind.wrap_i64]; omega
    have hr1 : ∀ W, (Instr.slice 22 (.slice q n c) none (some (.int .i64 (k : Int))) none).run Tryd.prog W = .ok (.slice (subA q c 0) k c) W := fun W => run_slice_to q n c k W (by omega)
    have hr2 : ∀ W, (Instr.slice 22 (.slice q n c) (some (.int .i64 ((k : Int) + 1))) none none).run Tryd.prog W = .ok (.slice (subA q c (k + 1)) (n - (k + 1)) (c - (k + 1))) W := fun W => run_slice_from q n c k W hkn
    clear e1 e2 e3 h0 hge hk hs2 h
    rw [hl1, hl2]
    generalize l.take k = l1 at *
    generalize l.drop (k + 1) = l2 at *
    generalize hqa : subA q c 0 = qa at *
    generalize hqb : subA q c (k + 1) = qb at *
    clear hqa hqb
    go_enter Tryd.func24, Tryd.ntmps24
    go_wp2_with fail
    refine hix.mono ?_
    rintro e w' ⟨rfl, hw⟩
    subst hw
    go_wp2_with fail
    refine pregion_any (fun _ => True) (by kernel_rfl) ?_
    refine wpAnyH_take (i := 0) (v := .slice q n c) rfl (by kernel_rfl) (by kernel_rfl) (by kernel_rfl) (fun _ _ _ h => h) (.inl ⟨by kernel_rfl, ?_⟩) trivial ?_
    · rintro w -; go_simp
    refine wpAnyH_take (i := 1) (v := .int .i64 (k : Int)) rfl (by kernel_rfl) (by kernel_rfl) (by kernel_rfl) (fun _ _ _ h => h) (.inl ⟨by kernel_rfl, ?_⟩) trivial ?_
    · rintro w -; go_simp
    refine wpAnyH_take (i := 2) (v := .slice qa k c) rfl (by kernel_rfl) (by kernel_rfl) (by kernel_rfl) (fun _ _ _ h => h) (.inl ⟨by kernel_rfl, ?_⟩) trivial ?_
    · rintro w -; go_simp
    refine wpAnyH_take (i := 4) (v := .slice q n c) rfl (by kernel_rfl) (by kernel_rfl) (by kernel_rfl) (fun _ _ _ h => h) (.inl ⟨by kernel_rfl, ?_⟩) trivial ?_
    · rintro w -; go_simp
    refine wpAnyH_take (i := 5) (v := .int .i64 (k : Int)) rfl (by kernel_rfl) (by kernel_rfl) (by kernel_rfl) (fun _ _ _ h => h) (.inl ⟨by kernel_rfl, ?_⟩) trivial ?_
    · rintro w -; go_simp
    refine wpAnyH_take (i := 6) (v := .int .i64 ((k : Int) + 1)) rfl (by kernel_rfl) (by kernel_rfl) (by kernel_rfl) (fun _ _ _ h => h) (.inl ⟨by kernel_rfl, ?_⟩) trivial ?_
    · rintro w -; go_simp
    refine wpAnyH_take (i := 7) (v := .slice qb (n - (k + 1)) (c - (k + 1))) rfl (by kernel_rfl) (by kernel_rfl) (by kernel_rfl) (fun _ _ _ h => h) (.inl ⟨by kernel_rfl, ?_⟩) trivial ?_
    · rintro w -; go_simp
    have hd1 := bytes_keep hb1 (Keep.drew (fun _ => True) _) (fun _ _ _ => trivial)
    have hd2 := bytes_keep hb2 (Keep.drew (fun _ => True) _) (fun _ _ _ => trivial)
    refine pone 3 (by kernel_rfl) rfl fun K hK => ?_
    go_simp
    refine (Clone_any qa k c l1 _ hl1 (by omega) hd1).mono ?_
    rintro e w1 ⟨v1, rfl, hrow1, hbel1⟩
    have hd3 := bytes_keep hd2 (Keep.of_below hbel1) (fun a h1 h2 => bytes_lt hd2 a h1 h2)
    rw [drew_size] at hrow1 hbel1
    refine hK _ _ trivial ?_
    clear hK K
    refine pone 8 (by kernel_rfl) rfl fun K hK => ?_
    go_simp
    refine (Clone_any qb (n - (k + 1)) (c - (k + 1)) l2 _ hl2 (by omega) hd3).mono ?_
    rintro e w2 ⟨v2, rfl, hrow2, hbel2⟩
    have hrow1' := (Keep.of_below hbel2).row hrow1 (fun b hb => (hrow1.lt b hb).2)
    have hsz := hbel1.size
    rw [drew_size] at hsz
    have hrow2' := row_base hrow2 hsz
    have hfin : Below w'.heap.size w' w2 := (Below.refl _ _).drew.trans (hbel1.trans (hbel2.mono hsz))
    refine hK _ _ trivial ?_
    clear hK K hrow1 hrow2 hbel1 hbel2 hd1 hd2 hd3 hb1 hb2
    refine wpAnyH_take (i := 9) (v := v1) rfl (by kernel_rfl) (by kernel_rfl) (by kernel_rfl) (fun _ _ _ h => h) (.inl ⟨by kernel_rfl, ?_⟩) trivial ?_
    · rintro w -; go_simp
    refine wpAnyH_take (i := 10) (v := v2) rfl (by kernel_rfl) (by kernel_rfl) (by kernel_rfl) (fun _ _ _ h => h) (.inl ⟨by kernel_rfl, ?_⟩) trivial ?_
    · rintro w -; go_simp
    refine wpAnyH_take (i := 11) (v := .bool true) rfl (by kernel_rfl) (by kernel_rfl) (by kernel_rfl) (fun _ _ _ h => h) (.inl ⟨by kernel_rfl, ?_⟩) trivial ?_
    · rintro w -; go_simp
    refine pdone (by kernel_rfl) ?_ _
    go_wp2
    go_ret3
    exact ⟨v1, v2, rfl, hrow1', hrow2', hfin⟩
  · have hk : Lib.indexByte l b = -1 := by omega
    obtain ⟨e1, e2, e3⟩ := at_none b l hk
    rw [hk] at hix
    rw [e1, e2, e3, hl]
    clear e1 e2 e3 h0 hge hk hlt
    go_enter Tryd.func24, Tryd.ntmps24
    go_wp2_with fail
    refine hix.mono ?_
    rintro e w' ⟨rfl, hw⟩
    subst hw
    go_wp2_with fail
    refine (Clone_any q n c l _ hl (by omega) h).mono ?_
    rintro e w1 ⟨v1, rfl, hrow1, hbel1⟩
    go_wp2
    go_ret3
    exact ⟨v1, _, rfl, hrow1, World.ownsRow_nil _ _ _ _, hbel1⟩

end Go.Proofs.YtajojgimbagjoaaDoor

namespace Go.Proofs.YtajojgimbagjoaaDoor.Host
open Go.RowKit Go.Shelf Ref

set_option maxHeartbeats 1000000 in
theorem isDigit_any (b : UInt8) (w : World) :
    Calls Tryd.prog 69 #[.int .u8 (b.toNat : Int)] w fun e w' => e = .returned (.bool (Ref.decB b)) ∧ w = w' := by
  have hb := Ref.u8_lt b
  by_cases h1 : 48 ≤ b.toNat
  · by_cases h2 : b.toNat ≤ 57
    · have H := Lib.hid (show Ref.decB b = true by simp [Ref.decB]; omega)
      have d1 : decide ((48 : Int) ≤ (b.toNat : Int)) = true := by simp; omega
      have d2 : decide ((b.toNat : Int) ≤ (57 : Int)) = true := by simp; omega
      go_enter Tryd.func69, Tryd.ntmps69
      go_wp2
      go_ret
      exact ⟨(by rw [H.out]; try rfl), rfl⟩
    · have H := Lib.hid (show Ref.decB b = false by simp [Ref.decB]; omega)
      have d2 : decide ((b.toNat : Int) ≤ (57 : Int)) = false := by simp; omega
      go_enter Tryd.func69, Tryd.ntmps69
      go_wp2
      go_ret
      exact ⟨(by rw [H.out]; try rfl), rfl⟩
  · have H := Lib.hid (show Ref.decB b = false by simp [Ref.decB]; omega)
    have d1 : decide ((48 : Int) ≤ (b.toNat : Int)) = false := by simp; omega
    go_enter Tryd.func69, Tryd.ntmps69
    go_wp2
    go_ret
    exact ⟨(by rw [H.out]; try rfl), rfl⟩

set_option maxHeartbeats 1000000 in
theorem isLetter_any (b : UInt8) (w : World) :
    Calls Tryd.prog 93 #[.int .u8 (b.toNat : Int)] w fun e w' => e = .returned (.bool (Ref.letB b)) ∧ w = w' := by
  have hb := Ref.u8_lt b
  obtain ⟨x1, h1⟩ : ∃ x, decide ((65 : Int) ≤ (b.toNat : Int)) = x := ⟨_, rfl⟩
  obtain ⟨x2, h2⟩ : ∃ x, decide ((b.toNat : Int) ≤ (90 : Int)) = x := ⟨_, rfl⟩
  obtain ⟨x3, h3⟩ : ∃ x, decide ((97 : Int) ≤ (b.toNat : Int)) = x := ⟨_, rfl⟩
  obtain ⟨x4, h4⟩ : ∃ x, decide ((b.toNat : Int) ≤ (122 : Int)) = x := ⟨_, rfl⟩
  have H := Lib.hid (show Ref.letB b = ((x1 && x2) || (x3 && x4)) by
    rw [← h1, ← h2, ← h3, ← h4, Bool.eq_iff_iff]
    simp only [Ref.letB, decide_eq_true_eq, Bool.or_eq_true, Bool.and_eq_true]
    omega)
  cases x1 <;> cases x2 <;> cases x3 <;> cases x4
  all_goals
    go_enter Tryd.func93, Tryd.ntmps93
    go_wp2
    go_ret
    exact ⟨(by rw [H.out]; try rfl), rfl⟩

theorem part_parts (p : List UInt8) : partB p = (!p.isEmpty && decide (p.length ≤ 63) && p.getD 0 0 != 45 && p.getD (p.length - 1) 0 != 45 && p.all hostByte) := rfl
theorem hostByte_of (b : UInt8) : hostByte b = (Ref.letB b || Ref.decB b || b == 45) := rfl
theorem all_host_drop (l : List UInt8) (k : Nat) (h : k < l.length) : (l.drop k).all hostByte = (hostByte (l.getD k 0) && (l.drop (k + 1)).all hostByte) := by
  rw [Ref.drop_cons l k h, List.all_cons]

set_option maxRecDepth 100000 in
set_option maxHeartbeats 8000000 in
theorem isPart_any (q : Option Addr) (n c : Nat) (l : List UInt8) (w : World) (hl : l.length = n) (hn : n ≤ 140737488355328) (h : Lib.BytesIn w q n (Lib.numsL l)) :
    Calls Tryd.prog 68 #[.slice q n c] w fun e w' => e = .returned (.bool (partB l)) ∧ w = w' := by
  have PP := Lib.hid (part_parts l)
  by_cases hz : n = 0
  · subst hz
    obtain rfl : l = [] := List.eq_nil_of_length_eq_zero hl
    have H := Lib.hid (show partB [] = false from rfl)
    clear PP h
    go_enter Tryd.func68, Tryd.ntmps68
    go_wp2
    go_ret
    exact ⟨(by rw [H.out]; try rfl), rfl⟩
  · have hz' : 0 < n := by omega
    have e0 : ((n : Int) == 0) = false := by rw [beq_eq_false_iff_ne]; omega
    have hne : l.isEmpty = false := by cases l with | nil => simp at hl; omega | cons a r => rfl
    obtain ⟨b, o, rfl, hc⟩ := h.at hz'
    have HC := Lib.hid (fun k (hk : k < n) => show w.cell? ⟨b, o + k, none⟩ = some (.int .u8 ((l.getD k 0).toNat : Int)) by rw [hc k hk, numsL_getD l k (by omega)])
    clear hc h
    by_cases h63 : 63 < n
    · have d3 : decide ((63 : Int) < (n : Int)) = true := by simp; omega
      have H := Lib.hid (show partB l = false by rw [PP.out, hl, decide_eq_false (by omega)]; simp)
      clear PP HC hl hz hne
      go_enter Tryd.func68, Tryd.ntmps68
      go_wp2
      go_ret
      exact ⟨(by rw [H.out]; try rfl), rfl⟩
    · have d3 : decide ((63 : Int) < (n : Int)) = false := by simp; omega
      have ck0 : w.cell? ⟨b, o, none⟩ = some (.int .u8 ((l.getD 0 0).toNat : Int)) := HC.out 0 hz'
      have ckl := HC.out (n - 1) (by omega)
      have PQ := Lib.hid (show partB l = (l.getD 0 0 != 45 && l.getD (n - 1) 0 != 45 && l.all hostByte) by rw [PP.out, hl, decide_eq_true (by omega), hne]; simp)
      have wn : IntKind.i64.wrap ((n : Int) - 1) = ((n - 1 : Nat) : Int) := by rw [IntKind.wrap_i64]; omega
      clear PP hne
      generalize l.getD 0 0 = b0 at *
      by_cases h45 : b0 = 45
      · have e1 : ((b0.toNat : Int) == 45) = true := by rw [h45]; rfl
        have H := Lib.hid (show partB l = false by rw [PQ.out, h45]; rfl)
        clear PQ HC hl hz h45 ckl wn
        go_enter Tryd.func68, Tryd.ntmps68
        go_wp2
        go_ret
        exact ⟨(by rw [H.out]; try rfl), rfl⟩
      · have e1 : ((b0.toNat : Int) == 45) = false := by
          rw [beq_eq_false_iff_ne]; intro h; exact h45 (UInt8.toNat_inj.1 (by have : (45 : UInt8).toNat = 45 := rfl; omega))
        generalize l.getD (n - 1) 0 = bl at *
        by_cases h45' : bl = 45
        · have e2 : ((bl.toNat : Int) == 45) = true := by rw [h45']; rfl
          have H := Lib.hid (show partB l = false by rw [PQ.out, h45']; simp)
          clear PQ HC hl h45 h45'
          go_enter Tryd.func68, Tryd.ntmps68
          go_wp2
          go_ret
          exact ⟨(by rw [H.out]; try rfl), rfl⟩
        · have e2 : ((bl.toNat : Int) == 45) = false := by
            rw [beq_eq_false_iff_ne]; intro h; exact h45' (UInt8.toNat_inj.1 (by have : (45 : UInt8).toNat = 45 := rfl; omega))
          have PA := Lib.hid (show partB l = l.all hostByte by rw [PQ.out, bne_iff_ne.2 h45, bne_iff_ne.2 h45']; simp)
          clear PQ h45 h45'
          have HL := Lib.hid hl
          clear hl
          go_enter Tryd.func68, Tryd.ntmps68
          go_wp2
          clear e0 e1 e2 d3 ck0 ckl wn hz
          go_loop [30] (fun i => ∃ k : Nat, k ≤ n ∧ i = .int .i64 k ∧ Hid (partB l = (l.drop k).all hostByte)) (fun i => n - (intOf i).toNat)
          case atStart => exact ⟨0, Nat.zero_le _, rfl, PA⟩
          case round =>
            obtain ⟨k, hk, rfl, HR⟩ := hrel
            by_cases hlt : k < n
            · have ck := HC.out k hlt
              have hd := all_host_drop l k (by rw [HL.out]; exact hlt)
              rw [hostByte_of] at hd
              generalize l.getD k 0 = bk at *
              have c1 := isLetter_any bk
              have c2 := isDigit_any bk
              have hbk := Ref.u8_lt bk
              cases hle : Ref.letB bk with
              | true =>
                rw [hle] at c1 hd
                have HR2 := Lib.hid (show partB l = (l.drop (k + 1)).all hostByte by rw [HR.out, hd]; simp)
                clear hd hle HR c2 PA
                go_wp2_with (go_at_call 93; refine (c1 _).mono ?_; rintro e w' ⟨rfl, rfl⟩)
                go_round
                case rel => exact ⟨k + 1, by omega, by go_num, HR2⟩
                case measure => simp [intOf]; omega
              | false =>
                cases hde : Ref.decB bk with
                | true =>
                  rw [hle] at c1 hd
                  rw [hde] at c2 hd
                  have HR2 := Lib.hid (show partB l = (l.drop (k + 1)).all hostByte by rw [HR.out, hd]; simp)
                  clear hd hle hde HR PA
                  go_wp2_with (first | (go_at_call 93; refine (c1 _).mono ?_; rintro e w' ⟨rfl, rfl⟩) | (go_at_call 69; refine (c2 _).mono ?_; rintro e w' ⟨rfl, rfl⟩))
                  go_round
                  case rel => exact ⟨k + 1, by omega, by go_num, HR2⟩
                  case measure => simp [intOf]; omega
                | false =>
                  rw [hle] at c1 hd
                  rw [hde] at c2 hd
                  by_cases hmi : bk = 45
                  · have e3 : ((bk.toNat : Int) != 45) = false := by rw [hmi]; rfl
                    have HR2 := Lib.hid (show partB l = (l.drop (k + 1)).all hostByte by rw [HR.out, hd, hmi]; rfl)
                    clear hd hle hde HR hmi PA
                    go_wp2_with (first | (go_at_call 93; refine (c1 _).mono ?_; rintro e w' ⟨rfl, rfl⟩) | (go_at_call 69; refine (c2 _).mono ?_; rintro e w' ⟨rfl, rfl⟩))
                    go_round
                    case rel => exact ⟨k + 1, by omega, by go_num, HR2⟩
                    case measure => simp [intOf]; omega
                  · have e3 : ((bk.toNat : Int) != 45) = true := by
                      rw [bne_iff_ne]; intro h; exact hmi (UInt8.toNat_inj.1 (by have : (45 : UInt8).toNat = 45 := rfl; omega))
                    have H := Lib.hid (show partB l = false by rw [HR.out, hd, beq_false_of_ne hmi]; rfl)
                    clear hd hle hde HR hmi PA
                    go_wp2_with (first | (go_at_call 93; refine (c1 _).mono ?_; rintro e w' ⟨rfl, rfl⟩) | (go_at_call 69; refine (c2 _).mono ?_; rintro e w' ⟨rfl, rfl⟩))
                    go_ret
                    exact ⟨(by rw [H.out]; try rfl), rfl⟩
            · have H := Lib.hid (show partB l = true by rw [HR.out, List.drop_of_length_le (by rw [HL.out]; omega)]; rfl)
              clear HR PA
              go_wp2
              go_ret
              exact ⟨(by rw [H.out]; try rfl), rfl⟩

end Go.Proofs.YtajojgimbagjoaaDoor.Host

namespace Go.Proofs.YtajojgimbagjoaaDoor.Url

theorem at_ahead (c : UInt8) (l : List UInt8) : atFst c l = aheadL c l ∧ Host.tailL c l = (if atOk c l = true then some (atSnd c l) else none) ∧ (atOk c l = false → atSnd c l = []) := by
  by_cases h : c ∈ l
  · obtain ⟨x, y, rfl, hx⟩ := List.eq_append_cons_of_mem h
    have hi : Lib.indexByte (x ++ c :: y) c = (x.length : Int) := index_at _ _ _ (by simp) (by simp [List.getD]) fun j hj => by
      intro e
      apply hx
      rw [← e, List.getD, List.getElem?_append_left hj, List.getElem?_eq_getElem hj]
      exact List.getElem_mem hj
    obtain ⟨h1, h2, h3⟩ := at_found c _ _ hi
    obtain ⟨h4, h5⟩ := ahead_yes c x y hx
    rw [h1, h2, h3, h4, h5, if_pos rfl]
    refine ⟨by simp, by simp, fun h => by cases h⟩
  · have hi : Lib.indexByte l c = -1 := index_no _ _ fun j hj e => h (by
      rw [← e, List.getD, List.getElem?_eq_getElem hj]
      exact List.getElem_mem hj)
    obtain ⟨h1, h2, h3⟩ := at_none c l hi
    obtain ⟨h4, h5⟩ := ahead_no c l h
    rw [h1, h2, h3, h4, h5]
    exact ⟨rfl, rfl, fun _ => rfl⟩
theorem at_len (c : UInt8) (l : List UInt8) : (atFst c l).length ≤ l.length ∧ (atSnd c l).length ≤ l.length := by
  refine ⟨by rw [(at_ahead c l).1]; exact ahead_len c l, ?_⟩
  unfold atSnd
  split
  · rw [List.length_drop]; omega
  · simp

/-- Where "://" begins first. -/
def sepI (l : List UInt8) : Int := Lib.index l [58, 47, 47]
theorem sep_none (l : List UInt8) (h : sepI l = -1) : sepL l = none := by
  induction l with
  | nil => rfl
  | cons b r ih =>
    unfold sepI at h ih
    rw [Lib.index] at h
    split at h
    · cases h
    · rename_i hp
      split at h
      · rename_i hr
        unfold sepL
        split
        · rename_i t
          exact absurd (by simp [List.isPrefixOf]) hp
        · rw [ih (by simpa using hr)]; rfl
      · have := Lib.index_ge r [58, 47, 47]; omega
theorem sep_some : ∀ (l : List UInt8) (k : Nat), sepI l = (k : Int) → sepL l = some (l.take k, l.drop (k + 3)) ∧ k + 3 ≤ l.length
  | [], k, h => by
    unfold sepI at h
    rw [Lib.index] at h
    simp at h
  | b :: r, k, h => by
    have ih := sep_some r
    unfold sepI at h ih
    rw [Lib.index] at h
    split at h
    · rename_i hp
      obtain rfl : k = 0 := by omega
      have hp' : ([58, 47, 47] : List UInt8) <+: b :: r := List.isPrefixOf_iff_prefix.1 hp
      obtain ⟨t, ht⟩ := hp'
      rw [← ht]
      exact ⟨rfl, by simp⟩
    · rename_i hp
      split at h
      · omega
      · rename_i hr
        have hge := Lib.index_ge r [58, 47, 47]
        have hr' : Lib.index r [58, 47, 47] ≠ -1 := by simpa using hr
        obtain ⟨j, hj⟩ : ∃ j : Nat, Lib.index r [58, 47, 47] = (j : Int) := ⟨(Lib.index r [58, 47, 47]).toNat, by omega⟩
        obtain rfl : k = j + 1 := by omega
        obtain ⟨h1, h2⟩ := ih j hj
        refine ⟨?_, by rw [List.length_cons]; omega⟩
        unfold sepL
        split
        · exact absurd (by simp [List.isPrefixOf]) hp
        · rw [h1]
          simp
theorem sep_cases (l : List UInt8) : (sepI l = -1 ∧ sepL l = none) ∨ ∃ k : Nat, sepI l = (k : Int) ∧ k + 3 ≤ l.length ∧ sepL l = some (l.take k, l.drop (k + 3)) := by
  have hge : -1 ≤ sepI l := Lib.index_ge l _
  by_cases h : sepI l = -1
  · exact .inl ⟨h, sep_none l h⟩
  · have hk : sepI l = ((sepI l).toNat : Int) := by omega
    obtain ⟨h1, h2⟩ := sep_some l _ hk
    exact .inr ⟨_, hk, h2, h1⟩

theorem text_scheme (u : U) (h : Ok u) : ∃ k : Nat, sepI (textU u) = (k : Int) ∧ 0 < k ∧ k ≤ (textU u).length ∧ ∀ b ∈ (textU u).take k, 97 ≤ b.toNat ∧ b.toNat ≤ 122 := by
  have e : textU u = u.scheme ++ [58, 47, 47] ++ (u.host ++ portT u ++ u.path ++ queryT u ++ fragT u) := by unfold textU; simp only [List.append_assoc]
  have hs : ∃ r, sepL (textU u) = some (u.scheme, r) := by
    rw [e]
    rcases h.scheme with hs | hs
    · rw [hs]; exact ⟨_, sep_http _⟩
    · rw [hs]; exact ⟨_, sep_https _⟩
  obtain ⟨r, hr⟩ := hs
  rcases sep_cases (textU u) with ⟨_, h2⟩ | ⟨k, h1, h2, h3⟩
  · rw [hr] at h2; cases h2
  · rw [hr] at h3
    have h4 : u.scheme = (textU u).take k := (Prod.mk.inj (Option.some.inj h3)).1
    refine ⟨k, h1, ?_, by omega, ?_⟩
    · rcases Nat.eq_zero_or_pos k with h0 | h0
      · subst h0
        rw [List.take_zero] at h4
        rcases h.scheme with hs | hs <;> (rw [h4] at hs; cases hs)
      · exact h0
    · rw [← h4]
      rcases h.scheme with hs | hs
      · rw [hs]; decide
      · rw [hs]; decide

end Go.Proofs.YtajojgimbagjoaaDoor.Url

namespace Go.Proofs.YtajojgimbagjoaaDoor.Host
open Go.RowKit Go.Shelf
attribute [local go_sem] Oper.semAt_some

theorem results_bool {fn : Func} {p : Tmp} (h : fn.results = #[.cell p 4]) (tmps : Array Value) (w : World) (B : Nat) (v : Value) (hp : tmps.getD p undef = .pointer (some ⟨B, 0, none⟩)) (hb : w.cell? ⟨B, 0, none⟩ = some v) :
    (results fn tmps).run Tryd.prog w = .ok v w := by
  have hp' : tmps[p]?.getD undef = .pointer (some ⟨B, 0, none⟩) := by simpa using hp
  have ha : ∀ w', (isAgg 4).run Tryd.prog w' = .ok false w' := Tryd.isAgg4
  have hl : (load ⟨B, 0, none⟩).run Tryd.prog w = .ok v w := by simp [go_sem, hb]
  simp [results, h, hp', asAddr, loadVar, ha, hl, Result.andThen]

/-- Between two rounds of a loop that makes no memory of its own: E holds of what lay ahead of the loop. -/
def EvI {α : Type} (W0 : World) (E : List α → World → Prop) (pre : List α) (Pv : Nat → Prop) (W : World) : Prop := (∀ b, Pv b → W0.heap.size ≤ b) ∧ Keep (fun _ => False) W0 W ∧ E pre W
/-- Where it has left that loop. -/
def EvX {α : Type} (W0 : World) (E : List α → World → Prop) (c : Code) (pre : List α) (Pv : Nat → Prop) (W : World) : Prop := c = .ret ∧ EvI W0 E pre Pv W
theorem EvI_abide {α : Type} {W0 : World} {E : List α → World → Prop} (hE : ∀ pre A B, Keep (fun b => b < W0.heap.size) A B → E pre A → E pre B) : Abide (EvI W0 E) := by
  rintro pre Pv Pv' A B ⟨h1, h2, h3⟩ hk hp
  refine ⟨fun b hb => ?_, h2.trans (hk.mono fun _ _ h => h.elim), hE _ _ _ (hk.mono fun b _ hb hn => by have := h1 b hn; omega) h3⟩
  rcases (hp b hb).1 with h | h
  · exact h1 b h
  · exact Nat.le_trans h2.size h
theorem EvX_abide {α : Type} {W0 : World} {E : List α → World → Prop} (hE : ∀ pre A B, Keep (fun b => b < W0.heap.size) A B → E pre A → E pre B) (c : Code) : Abide (EvX W0 E c) :=
  fun s Pv Pv' A B h hk hp => ⟨h.1, EvI_abide hE s Pv Pv' A B h.2 hk hp⟩

theorem splitX_snd (c : UInt8) (l : List UInt8) : (splitX c l).map Prod.snd = Ref.splitL c l := by
  rw [← pieces_split]
  unfold splitX splitOf piecesOf
  rw [List.map_map]
  apply List.ext_getElem?
  intro i
  simp only [List.getElem?_map, List.getElem?_zipIdx]
  cases (spansL (isB c) l)[i]? <;> rfl
theorem splitX_length (c : UInt8) (l : List UInt8) : (splitX c l).length = (Ref.splitL c l).length := by rw [← splitX_snd, List.length_map]
theorem addrX (l : List UInt8) : addrB (Ref.splitL 46 l) = (decide ((splitX 46 l).length = 4) && (splitX 46 l).all fun x => Ref.numB x.2) := by
  rw [Ref.addr_num, ← splitX_length, ← splitX_snd, List.all_map]
  rfl

/-- What lies while the parts are gone through. -/
def AdrE (w : World) (pre : List (Nat × List UInt8)) (W : World) : Prop :=
  Boxed W w.heap.size 4 (.bool false) ∧ Boxed W (w.heap.size + 1) 3 (.int .i64 pre.length) ∧ pre.all (fun x => Ref.numB x.2) = true ∧ Below w.heap.size w W
def AdrX (w : World) (xs : List (Nat × List UInt8)) (_ : List (Nat × List UInt8)) (W : World) : Prop :=
  Boxed W w.heap.size 4 (.bool false) ∧ xs.all (fun x => Ref.numB x.2) = false ∧ Below w.heap.size w W

set_option maxRecDepth 100000 in
set_option maxHeartbeats 4000000 in
theorem Address_any (q : Option Addr) (n c : Nat) (l : List UInt8) (w : World) (hl : l.length = n) (hn : n ≤ 140737488355328) (h : Lib.BytesIn w q n (Lib.numsL l)) :
    Calls Tryd.prog 70 #[.slice q n c] w fun e w' => e = .returned (.bool (addressB l)) ∧ Below w.heap.size w w' := by
  refine (callsIn_wide (n := 1)).1 ?_
  refine callsIn_of_wp_marks Tryd.func70 rfl trivial ?_ rfl
  simp only [Tryd.ntmps70, List.size_toArray, List.length_cons, List.length_nil, Nat.reduceAdd, Nat.reduceSub, Array.replicate_succ, Array.replicate_zero, List.push_toArray, List.append_toArray, List.nil_append, List.cons_append]
  by_cases hbig : 253 < n
  · have d1 : decide ((253 : Int) < (n : Int)) = true := by simp; omega
    have H := Lib.hid (address_big l (by omega))
    clear h hl
    gi_wp2
    exact ⟨_, results_bool rfl _ _ w.heap.size _ rfl (Boxed.new w _ _).cell, by rw [H.out], (Below.refl _ _).alloc (Nat.le_refl _) _⟩
  · have d1 : decide ((253 : Int) < (n : Int)) = false := by simp; omega
    have HA := Lib.hid ((address_of l (by omega)).trans (addrX l))
    obtain ⟨W0, hW0⟩ : ∃ W0, (w.alloc (.cells #[.bool false] 4)).alloc (.cells #[.int .i64 0] 3) = W0 := ⟨_, rfl⟩
    have b0 : Boxed W0 w.heap.size 4 (.bool false) := hW0 ▸ (Boxed.new w _ _).alloc _
    have b1 : Boxed W0 (w.heap.size + 1) 3 (.int .i64 0) := by
      have := Boxed.new (w.alloc (.cells #[.bool false] 4)) 3 (.int .i64 0)
      rw [World.size_alloc] at this
      exact hW0 ▸ this
    have hB0 : Below w.heap.size w W0 := hW0 ▸ ((Below.refl _ w).alloc (Nat.le_refl _) _).alloc (by simp) _
    have hs0 : W0.heap.size = w.heap.size + 2 := by rw [← hW0]; simp
    have hb0 := bytes_keep h (Keep.of_below hB0) (fun a h1 h2 => bytes_lt h a h1 h2)
    have con := Split_any q n c 46 l W0 hl (by omega) hb0
    have hsmall := splitX_small 46 l n hl
    have hlenX := splitX_len 46 l
    rw [hl] at hlenX
    have HW0 := Lib.hid hW0
    clear h hW0 hb0 hl
    gi_wp2_with fail
    rw [HW0.out]
    refine ⟨trivial, (callsIn_wide.2 con).mono ?_⟩
    rintro e W1 ⟨B, v', rfl, hB, hBc, hrow, hBl, hbel⟩
    have hit := Split_iter (by omega) hB hBc hrow
    have hRl0 : ∀ b, (b = B ∨ b = W0.heap.size ∨ v'.ownBlock = some b) → w.heap.size + 2 ≤ b ∧ b < W1.heap.size := fun b hb => by
      rcases hb with rfl | rfl | hb
      · exact ⟨by omega, hB.lt⟩
      · exact ⟨by omega, hBc.lt⟩
      · have := hrow.lt b hb; exact ⟨by omega, this.2⟩
    obtain ⟨RB, hRB⟩ : ∃ RB : Nat → Prop, RB = fun b => b = B ∨ b = W0.heap.size ∨ v'.ownBlock = some b := ⟨_, rfl⟩
    rw [← hRB, hs0] at hit
    have hRl : ∀ b, RB b → w.heap.size + 2 ≤ b ∧ b < W1.heap.size := fun b hb => hRl0 b (by rw [hRB] at hb; exact hb)
    clear hRB hRl0
    replace b0 := (Keep.of_below hbel).boxed b0 (by omega)
    replace b1 := (Keep.of_below hbel).boxed b1 (by omega)
    have hB1 := hB0.trans (hbel.mono hB0.size)
    have hs1 := hbel.size
    clear con hB hBc hrow hBl hbel HW0 hB0
    generalize splitX 46 l = xs at *
    gi_wp2
    rw [hs0] at hs1
    clear hs0
    refine rf_law (gf := 71) (lb := #[.pointer (some ⟨B, 0, none⟩), .pointer (some ⟨w.heap.size + 2, 0, none⟩)]) rfl (enters_of Tryd.func71 (by kernel_rfl) rfl)
      hit (Keep.refl _ _) (fun b hb => (hRl b hb).2) (fun x args G W h => by obtain ⟨v, rfl, _⟩ := h; rfl)
      (EvI W1 (AdrE w)) (EvX W1 (AdrX w xs)) (EvI_abide ?e1) (EvX_abide ?e2)
      ⟨(fun _ h => h.elim), Keep.refl _ _, b0, b1, rfl, hB1⟩ ?round ?done ?stop
    case e1 =>
      rintro pre A B hk ⟨h1, h2, h3, h4⟩
      exact ⟨hk.boxed h1 (by omega), hk.boxed h2 (by omega), h3, h4.trans ((hk.mono fun b _ hb => by omega).below h4.size)⟩
    case e2 =>
      rintro pre A B hk ⟨h1, h3, h4⟩
      exact ⟨hk.boxed h1 (by omega), h3, h4.trans ((hk.mono fun b _ hb => by omega).below h4.size)⟩
    case round =>
      rintro ll pre ⟨xi, x⟩ rest Pv G args Wr hll hxs ⟨hge, hK1, hE1, hE2, hE3, hE4⟩ hPl hGl hPb hGP ⟨p, rfl, hp, rfl⟩
      have hxm : (xi, x) ∈ xs := by rw [hxs]; simp
      have hxl := hsmall _ hxm
      simp only at hxl hp
      obtain ⟨qx, cx, rfl, _, hnc, hcm, hbs, hblk⟩ := row_open hp
      have hlen : pre.length + rest.length + 1 = xs.length := by rw [hxs]; simp; omega
      clear hxs
      gi_wp2
      refine ⟨Keep.refl _ _, fun W2 hk2 hs2 r hr => ?_⟩
      have k2 : Keep (fun b => b < W1.heap.size) Wr W2 := hk2.mono fun b _ hb h => by omega
      have f1 := k2.boxed hE1 (by omega)
      have f2 := k2.boxed hE2 (by omega)
      have gx : Keep (fun b => (Value.slice qx x.length cx).ownBlock = some b) Wr W2 := hk2.mono fun b _ hb h => hGl (h ▸ hb)
      have hbs2 : Lib.BytesIn W2 qx x.length (Lib.numsL x) := bytes_keep hbs gx (fun a ha _ => (hblk a ha).2.2)
      have con2 := Number_any qx x.length cx x 255 W2 rfl (by omega) hbs2 (by decide) (by decide)
      rw [numOf_ref] at con2
      unfold numV at con2
      have c1 := f1.cell
      have c2 := f2.cell
      have z1 := f1.frozen
      have z2 := f2.frozen
      have hW2 := hE4.trans ((k2.mono fun b _ h => by omega).below hE4.size)
      have hs2' := hE4.size
      have hK2 := hK1.trans (hk2.mono fun _ _ h => h.elim)
      clear hbs hp hbs2 hblk hk2 gx
      cases ho : Ref.numOf 255 x with
      | none =>
        have HB := Lib.hid (show xs.all (fun x => Ref.numB x.2) = false by
          rw [List.all_eq_false]; exact ⟨_, hxm, by unfold Ref.numB; rw [ho]; simp⟩)
        rw [ho] at con2
        clear ho hxm
        gi_wp2_with fail
        refine ⟨trivial, rfl, (CallsIn.inRound ll (callsIn_wide.2 con2)).mono ?_⟩
        rintro e w' ⟨rfl, rfl⟩
        clear con2
        gi_wp2
        refine ⟨Keep.setCell _ _ _ (fun h => ?_), rfl, fun b hb => hge b hb.1, hK2.trans (Keep.setCell _ _ _ (fun h => h)), f1.set _, HB.out, hW2.setCell (p := ⟨w.heap.size, 0, none⟩) (Nat.le_refl _) _⟩
        rcases h with h | h
        · have := (hRl _ h).1; simp only at this; omega
        · have := hge _ h.1; simp only at this; omega
      | some m =>
        have HB := Lib.hid (show (pre ++ [(xi, x)]).all (fun x => Ref.numB x.2) = true by
          rw [List.all_append, hE3]; simp [Ref.numB, ho])
        have HPL := Lib.hid (show ((pre ++ [(xi, x)]).length : Int) = (pre.length : Int) + 1 by simp)
        have hpl : (pre.length : Int) + 1 ≤ 9223372036854775807 := by omega
        rw [ho] at con2
        clear ho hxm
        gi_wp2_with fail
        refine ⟨trivial, rfl, (CallsIn.inRound ll (callsIn_wide.2 con2)).mono ?_⟩
        rintro e w' ⟨rfl, rfl⟩
        clear con2
        gi_wp2
        have kst : ∀ S : Nat → Prop, ¬ S (w.heap.size + 1) → Keep S W2 (W2.setCell ⟨w.heap.size + 1, 0, none⟩ (.int .i64 ((pre.length : Int) + 1))) := fun S h => Keep.setCell _ _ _ h
        refine ⟨kst _ (fun h => ?_), fun b hb => hge b hb.1, hK2.trans (kst _ (fun h => h)), (kst (fun b => b = w.heap.size) (by omega)).boxed f1 rfl, by rw [HPL.out]; exact f2.set _, HB.out, hW2.setCell (p := ⟨w.heap.size + 1, 0, none⟩) (Nat.le_succ _) _⟩
        rcases h with h | h
        · have := (hRl _ h).1; omega
        · have := hge _ h.1; omega
    case done =>
      rintro D Pv Wd hD hPD hPl ⟨hge, hK1, hE1, hE2, hE3, hE4⟩ hK
      have c1 := hE1.cell
      have c2 := hE2.cell
      have z1 := hE1.frozen
      have z2 := hE2.frozen
      gi_wp2
      have hKd : (Wd.setCell ⟨w.heap.size, 0, none⟩ (.bool ((xs.length : Int) == 4))).heap[D]? = some (.deferred (some [])) := (Keep.setCell (S := fun b => b = D) Wd ⟨w.heap.size, 0, none⟩ _ (show ¬ w.heap.size = D by omega)).heap rfl hK
      have kp : ∀ (S : Nat → Prop) (W : World), ¬ S D → Keep S W (W.putObj D (.deferred none)) := fun S W h => Keep.putObj _ _ _ h
      refine ⟨by simp, .inl ⟨_, _, rfl, run_takeDeferred hKd, ?_⟩⟩
      refine ⟨_, results_bool rfl _ _ w.heap.size _ rfl ((kp (fun b => b = w.heap.size) _ (by omega)).boxed (hE1.set _) rfl).cell, ?_, ?_⟩
      · rw [HA.out, hE3, Bool.and_true]
        congr 2
        rw [Bool.eq_iff_iff, decide_eq_true_iff, beq_iff_eq]; omega
      · have h5 := hE4.setCell (p := ⟨w.heap.size, 0, none⟩) (Nat.le_refl _) (.bool ((xs.length : Int) == 4))
        exact h5.trans ((kp (fun b => b < w.heap.size) _ (by omega)).below h5.size)
    case stop =>
      rintro D cc pre rest Pv Wd hD hPD hPl hxs ⟨rfl, hge, hK1, hE1, hE3, hE4⟩ hK
      have kp : ∀ (S : Nat → Prop) (W : World), ¬ S D → Keep S W (W.putObj D (.deferred none)) := fun S W h => Keep.putObj _ _ _ h
      clear hxs
      gi_wp2
      refine ⟨by simp, .inl ⟨_, _, rfl, run_takeDeferred hK, ?_⟩⟩
      refine ⟨_, results_bool rfl _ _ w.heap.size _ rfl ((kp (fun b => b = w.heap.size) _ (by omega)).boxed hE1 rfl).cell, ?_, ?_⟩
      · rw [HA.out, hE3, Bool.and_false]
      · exact hE4.trans ((kp (fun b => b < w.heap.size) _ (by omega)).below hE4.size)

end Go.Proofs.YtajojgimbagjoaaDoor.Host

namespace Go.Proofs.YtajojgimbagjoaaDoor.Host
open Go.RowKit Go.Shelf
attribute [local go_sem] Oper.semAt_some

/-- The last part. -/
def lastX (xs : List (Nat × List UInt8)) : List UInt8 := (xs.getLast?.map Prod.snd).getD []
theorem lastX_snoc (pre : List (Nat × List UInt8)) (x : Nat × List UInt8) : lastX (pre ++ [x]) = x.2 := by simp [lastX]
theorem lastX_mem (xs : List (Nat × List UInt8)) (h : xs ≠ []) : ∃ x ∈ xs, lastX xs = x.2 := by
  refine ⟨xs.getLast h, List.getLast_mem h, ?_⟩
  unfold lastX
  rw [List.getLast?_eq_some_getLast h]; rfl
theorem hostX (l : List UInt8) : hostB (Ref.splitL 46 l) = (decide ((splitX 46 l).length ≤ 8) && ((splitX 46 l).all fun x => partB x.2) && (!Ref.decB ((lastX (splitX 46 l)).getD 0 0) || addrB (Ref.splitL 46 l))) := by
  have e1 : (Ref.splitL 46 l).getLastD [] = lastX (splitX 46 l) := by
    rw [← splitX_snd, List.getLastD_eq_getLast?, List.getLast?_map]; rfl
  have e2 : (Ref.splitL 46 l).all partB = (splitX 46 l).all fun x => partB x.2 := by rw [← splitX_snd, List.all_map]; rfl
  unfold hostB
  rw [e1, e2, ← splitX_length]

/-- What lies while the parts are gone through. -/
def HsI (w W1 : World) (pre : List (Nat × List UInt8)) (Pv : Nat → Prop) (W : World) : Prop :=
  ∃ q c, Boxed W w.heap.size 4 (.bool false) ∧ Boxed W (w.heap.size + 1) 22 (.slice q (lastX pre).length c) ∧ Boxed W (w.heap.size + 2) 3 (.int .i64 pre.length) ∧
    W.ownsRow 0 5 1 (.slice q (lastX pre).length c) (lastX pre).length ((Lib.numsL (lastX pre)).map (Value.int .u8)) ∧ (∀ b, (Value.slice q (lastX pre).length c).ownBlock = some b → W1.heap.size ≤ b ∧ ¬ Pv b) ∧
    (∀ b, Pv b → W1.heap.size ≤ b) ∧ Keep (fun _ => False) W1 W ∧ (pre.all fun x => partB x.2) = true ∧ pre.length ≤ 8 ∧ Below w.heap.size w W
theorem HsI_abide {w W1 : World} (h : w.heap.size + 3 ≤ W1.heap.size) : Abide (HsI w W1) := by
  rintro pre Pv Pv' A B ⟨q, c, h1, h2, h3, h4, h5, h6, h7, h8, h9, h10⟩ hk hp
  have kk : ∀ b, b < W1.heap.size → ¬ Pv b := fun b hb hn => by have := h6 b hn; omega
  have hs := h7.size
  refine ⟨q, c, hk.boxed h1 (kk _ (by omega)), hk.boxed h2 (kk _ (by omega)), hk.boxed h3 (kk _ (by omega)), hk.row h4 (fun b hb => (h5 b hb).2), fun b hb => ⟨(h5 b hb).1, fun hp' => ?_⟩, fun b hb => ?_, h7.trans (hk.mono fun _ _ h => h.elim), h8, h9, h10.trans ((hk.mono fun b _ hb => kk b (by omega)).below h10.size)⟩
  · rcases (hp b hp').1 with h' | h'
    · exact (h5 b hb).2 h'
    · have := (h4.lt b hb).2; omega
  · rcases (hp b hb).1 with h' | h'
    · exact h6 b h'
    · omega
def HsE (w : World) (r : Bool) (_ : List (Nat × List UInt8)) (W : World) : Prop := Boxed W w.heap.size 4 (.bool false) ∧ r = false ∧ Below w.heap.size w W

set_option maxRecDepth 100000 in
set_option maxHeartbeats 8000000 in
theorem isHost_any (q : Option Addr) (n c : Nat) (l : List UInt8) (w : World) (hl : l.length = n) (hn : n ≤ 253) (h : Lib.BytesIn w q n (Lib.numsL l)) :
    Calls Tryd.prog 41 #[.slice q n c] w fun e w' => e = .returned (.bool (hostB (Ref.splitL 46 l))) ∧ Below w.heap.size w w' := by
  refine (callsIn_wide (n := 1)).1 ?_
  refine callsIn_of_wp_marks Tryd.func41 rfl trivial ?_ rfl
  simp only [Tryd.ntmps41, List.size_toArray, List.length_cons, List.length_nil, Nat.reduceAdd, Nat.reduceSub, Array.replicate_succ, Array.replicate_zero, List.push_toArray, List.append_toArray, List.nil_append, List.cons_append]
  obtain ⟨W0, hW0⟩ : ∃ W0, ((w.alloc (.cells #[.bool false] 4)).alloc (.cells #[.slice none 0 0] 22)).alloc (.cells #[.int .i64 0] 3) = W0 := ⟨_, rfl⟩
  have b0 : Boxed W0 w.heap.size 4 (.bool false) := hW0 ▸ ((Boxed.new w _ _).alloc _).alloc _
  have b1 : Boxed W0 (w.heap.size + 1) 22 (.slice none 0 0) := by
    have := (Boxed.new (w.alloc (.cells #[.bool false] 4)) 22 (.slice none 0 0)).alloc (.cells #[.int .i64 0] 3)
    rw [World.size_alloc] at this
    exact hW0 ▸ this
  have b2 : Boxed W0 (w.heap.size + 2) 3 (.int .i64 0) := by
    have := Boxed.new ((w.alloc (.cells #[.bool false] 4)).alloc (.cells #[.slice none 0 0] 22)) 3 (.int .i64 0)
    rw [World.size_alloc, World.size_alloc] at this
    exact hW0 ▸ this
  have hB0 : Below w.heap.size w W0 := hW0 ▸ (((Below.refl _ w).alloc (Nat.le_refl _) _).alloc (by simp) _).alloc (by simp only [World.size_alloc]; omega) _
  have hs0 : W0.heap.size = w.heap.size + 3 := by rw [← hW0]; simp
  have hql := bytes_lt h
  have hb0 := bytes_keep h (Keep.of_below hB0) (fun a h1 h2 => bytes_lt h a h1 h2)
  have con := Split_any q n c 46 l W0 hl (by omega) hb0
  have hsmall := splitX_small 46 l n hl
  have hlenX := splitX_len 46 l
  have hneX : 0 < (splitX 46 l).length := by rw [splitX_length]; exact List.length_pos_iff.2 (Ref.split_ne 46 l)
  rw [hl] at hlenX
  have HW0 := Lib.hid hW0
  have HX := Lib.hid (hostX l)
  have HA := Lib.hid (address_of l (by omega))
  have conA := fun W hb => Address_any q n c l W hl (by omega) hb
  clear hW0 hb0 hl
  generalize addrB (Ref.splitL 46 l) = ab at *
  generalize hostB (Ref.splitL 46 l) = hb at *
  generalize addressB l = ad at *
  gi_wp2_with fail
  rw [HW0.out]
  refine ⟨trivial, (callsIn_wide.2 con).mono ?_⟩
  rintro e W1 ⟨B, v', rfl, hB, hBc, hrow, hBl, hbel⟩
  have hit := Split_iter (by omega) hB hBc hrow
  have hRl0 : ∀ b, (b = B ∨ b = W0.heap.size ∨ v'.ownBlock = some b) → w.heap.size + 3 ≤ b ∧ b < W1.heap.size := fun b hb => by
    rcases hb with rfl | rfl | hb
    · exact ⟨by omega, hB.lt⟩
    · exact ⟨by omega, hBc.lt⟩
    · have := hrow.lt b hb; exact ⟨by omega, this.2⟩
  obtain ⟨RB, hRB⟩ : ∃ RB : Nat → Prop, RB = fun b => b = B ∨ b = W0.heap.size ∨ v'.ownBlock = some b := ⟨_, rfl⟩
  rw [← hRB, hs0] at hit
  have hRl : ∀ b, RB b → w.heap.size + 3 ≤ b ∧ b < W1.heap.size := fun b hb => hRl0 b (by rw [hRB] at hb; exact hb)
  clear hRB hRl0
  replace b0 := (Keep.of_below hbel).boxed b0 (by omega)
  replace b1 := (Keep.of_below hbel).boxed b1 (by omega)
  replace b2 := (Keep.of_below hbel).boxed b2 (by omega)
  have hB1 := hB0.trans (hbel.mono hB0.size)
  have hs1 := hbel.size
  clear con hB hBc hrow hBl hbel HW0 hB0
  generalize splitX 46 l = xs at *
  gi_wp2
  rw [hs0] at hs1
  clear hs0
  refine rf_law (gf := 71) (lb := #[.pointer (some ⟨B, 0, none⟩), .pointer (some ⟨w.heap.size + 3, 0, none⟩)]) rfl (enters_of Tryd.func71 (by kernel_rfl) rfl)
    hit (Keep.refl _ _) (fun b hb => (hRl b hb).2) (fun x args G W h => by obtain ⟨v, rfl, _⟩ := h; rfl)
    (HsI w W1) (EvX W1 (HsE w hb)) (HsI_abide hs1) (EvX_abide ?e2)
    ⟨none, 0, b0, b1, b2, World.ownsRow_nil _ _ _ _, (fun _ h => by cases h), (fun _ h => h.elim), Keep.refl _ _, rfl, Nat.zero_le _, hB1⟩ ?round ?done ?stop
  case e2 =>
    rintro pre A B hk ⟨h1, h3, h4⟩
    exact ⟨hk.boxed h1 (by omega), h3, h4.trans ((hk.mono fun b _ hb => by omega).below h4.size)⟩
  case round =>
    rintro ll pre ⟨xi, x⟩ rest Pv G args Wr hll hxs ⟨q1, c1, hE1, hE2, hE3, hE4, hE5, hge, hK1, hE6, hE7, hE8⟩ hPl hGl hPb hGP ⟨p, rfl, hp, rfl⟩
    have hxm : (xi, x) ∈ xs := by rw [hxs]; simp
    have hxl := hsmall _ hxm
    simp only at hxl hp
    obtain ⟨qx, cx, rfl, _, hnc, hcm, hbs, hblk⟩ := row_open hp
    have hlen : pre.length + rest.length + 1 = xs.length := by rw [hxs]; simp; omega
    clear hxs
    gi_wp2
    refine ⟨Keep.refl _ _, fun W2 hk2 hs2 r hr => ?_⟩
    have k2 : Keep (fun b => b < W1.heap.size) Wr W2 := hk2.mono fun b _ hb h => by omega
    have f1 := k2.boxed hE1 (by omega)
    have f2 := k2.boxed hE2 (by omega)
    have f3 := k2.boxed hE3 (by omega)
    have gx : Keep (fun b => (Value.slice qx x.length cx).ownBlock = some b) Wr W2 := hk2.mono fun b _ hb h => hGl (h ▸ hb)
    have hbs2 : Lib.BytesIn W2 qx x.length (Lib.numsL x) := bytes_keep hbs gx (fun a ha _ => (hblk a ha).2.2)
    have hp2 := gx.row hp (fun _ h => h)
    have con2 := isPart_any qx x.length cx x W2 rfl (by omega) hbs2
    have k1 := f1.cell
    have k2' := f2.cell
    have k3 := f3.cell
    have z1 := f1.frozen
    have z2 := f2.frozen
    have z3 := f3.frozen
    have hW2 := hE8.trans ((k2.mono fun b _ h => by omega).below hE8.size)
    have hs2' := hE8.size
    have hK2 := hK1.trans (hk2.mono fun _ _ h => h.elim)
    have hGge : ∀ b, (Value.slice qx x.length cx).ownBlock = some b → W1.heap.size ≤ b := fun b h => hge b (hGP b h)
    have keep0 : Keep (fun b => RB b ∨ (Pv b ∧ ¬ (Value.slice qx x.length cx).ownBlock = some b)) W2 (W2.setCell ⟨w.heap.size, 0, none⟩ (.bool false)) := Keep.setCell _ _ _ fun h => by
      rcases h with h | h
      · have := (hRl _ h).1; simp only at this; omega
      · have := hge _ h.1; simp only at this; omega
    clear hbs hp hbs2 hblk hk2 gx hE4 hE5
    by_cases h8 : pre.length = 8
    · have HB := Lib.hid (show hb = false by rw [HX.out, decide_eq_false (by omega)]; rfl)
      have e8 : ((pre.length : Int) == 8) = true := by rw [beq_iff_eq]; omega
      clear con2 hxm h8
      gi_wp2_with fail
      refine ⟨trivial, ?_⟩
      gi_wp2
      exact ⟨keep0, rfl, fun b hb => hge b hb.1, hK2.trans (Keep.setCell _ _ _ (fun h => h)), f1.set _, HB.out, hW2.setCell (p := ⟨w.heap.size, 0, none⟩) (Nat.le_refl _) _⟩
    · have e8 : ((pre.length : Int) == 8) = false := by rw [beq_eq_false_iff_ne]; omega
      cases hpb : partB x with
      | false =>
        have HB := Lib.hid (show hb = false by
          have h1 : (xs.all fun x => partB x.2) = false := by rw [List.all_eq_false]; exact ⟨_, hxm, by rw [hpb]; simp⟩
          rw [HX.out, h1]; simp)
        rw [hpb] at con2
        clear hpb hxm h8
        gi_wp2_with fail
        refine ⟨trivial, rfl, (CallsIn.inRound ll (callsIn_wide.2 con2)).mono ?_⟩
        rintro e w' ⟨rfl, rfl⟩
        clear con2
        gi_wp2
        exact ⟨keep0, rfl, fun b hb => hge b hb.1, hK2.trans (Keep.setCell _ _ _ (fun h => h)), f1.set _, HB.out, hW2.setCell (p := ⟨w.heap.size, 0, none⟩) (Nat.le_refl _) _⟩
      | true =>
        have HB := Lib.hid (show ((pre ++ [(xi, x)]).all fun x => partB x.2) = true by rw [List.all_append, hE6]; simp [hpb])
        have HPL := Lib.hid (show ((pre ++ [(xi, x)]).length : Int) = (pre.length : Int) + 1 by simp)
        have HP8 := Lib.hid (show (pre ++ [(xi, x)]).length ≤ 8 by simp; omega)
        have HLX := Lib.hid (lastX_snoc pre (xi, x))
        rw [hpb] at con2
        clear hpb hxm h8 keep0 HX
        gi_wp2_with fail
        refine ⟨trivial, rfl, (CallsIn.inRound ll (callsIn_wide.2 con2)).mono ?_⟩
        rintro e w' ⟨rfl, rfl⟩
        clear con2
        gi_wp2
        have kst : ∀ S : Nat → Prop, ¬ S (w.heap.size + 1) → ¬ S (w.heap.size + 2) → Keep S W2 ((W2.setCell ⟨w.heap.size + 1, 0, none⟩ (.slice qx x.length cx)).setCell ⟨w.heap.size + 1 + 1, 0, none⟩ (.int .i64 ((pre.length : Int) + 1))) := fun S h h' => (Keep.setCell _ _ _ h).trans (Keep.setCell _ _ _ h')
        have g1 := (kst (fun b => b = w.heap.size) (by omega) (by omega)).boxed f1 rfl
        have g2 := (Keep.setCell (S := fun b => b = w.heap.size + 1) (W2.setCell ⟨w.heap.size + 1, 0, none⟩ (.slice qx x.length cx)) ⟨w.heap.size + 1 + 1, 0, none⟩ (.int .i64 ((pre.length : Int) + 1)) (show ¬ w.heap.size + 1 + 1 = w.heap.size + 1 by omega)).boxed (f2.set (.slice qx x.length cx)) rfl
        have g3 := ((Keep.setCell (S := fun b => b = w.heap.size + 2) W2 ⟨w.heap.size + 1, 0, none⟩ (.slice qx x.length cx) (show ¬ w.heap.size + 1 = w.heap.size + 2 by omega)).boxed f3 rfl).set (.int .i64 ((pre.length : Int) + 1))
        have g4 := (kst (fun b => (Value.slice qx x.length cx).ownBlock = some b) (fun h => by have := hGge _ h; omega) (fun h => by have := hGge _ h; omega)).row hp2 (fun _ h => h)
        have g5 := (hW2.setCell (p := ⟨w.heap.size + 1, 0, none⟩) (Nat.le_succ _) (.slice qx x.length cx)).setCell (p := ⟨w.heap.size + 1 + 1, 0, none⟩) (show w.heap.size ≤ w.heap.size + 1 + 1 by omega) (.int .i64 ((pre.length : Int) + 1))
        have g6 := hK2.trans (kst (fun _ => False) (fun h => h) (fun h => h))
        refine ⟨kst _ (fun h => ?_) (fun h => ?_), ?_⟩
        · rcases h with h | h
          · have := (hRl _ h).1; omega
          · have := hge _ h.1; omega
        · rcases h with h | h
          · have := (hRl _ h).1; omega
          · have := hge _ h.1; omega
        · unfold HsI
          rw [HLX.out, HPL.out]
          exact ⟨qx, cx, g1, g2, g3, g4, fun b h => ⟨hGge b h, fun h' => h'.2 h⟩, fun b h => hge b h.1, g6, HB.out, HP8.out, g5⟩
  case done =>
    rintro D Pv Wd hD hPD hPl ⟨q1, c1, hE1, hE2, hE3, hE4, hE5, hge, hK1, hE6, hE7, hE8⟩ hK
    obtain ⟨y, hym, hyl⟩ := lastX_mem xs (List.length_pos_iff.1 hneX)
    have hpy := List.all_eq_true.1 hE6 y hym
    rw [← hyl] at hpy
    have hx8 := decide_eq_true hE7
    have HXX := Lib.hid (show hb = (!Ref.decB ((lastX xs).getD 0 0) || ab) by rw [HX.out, hx8, hE6]; simp)
    obtain ⟨_, _, hcl, _, hnc, hcm, hbs, hblk⟩ := row_open hE4
    cases hcl
    have hz : 0 < (lastX xs).length := by
      rcases Nat.eq_zero_or_pos (lastX xs).length with h0 | h0
      · rw [part_parts, List.eq_nil_of_length_eq_zero h0] at hpy; cases hpy
      · exact h0
    obtain ⟨bl, ol, rfl, hcl⟩ := hbs.at hz
    have ck0 : Wd.cell? ⟨bl, ol, none⟩ = some (.int .u8 (((lastX xs).getD 0 0).toNat : Int)) := by rw [← numsL_getD _ 0 hz]; exact hcl 0 hz
    have k2 := hE2.cell
    have k1 := hE1.cell
    have z1 := hE1.frozen
    have kp : ∀ (S : Nat → Prop) (W : World), ¬ S D → Keep S W (W.putObj D (.deferred none)) := fun S W h => Keep.putObj _ _ _ h
    have conB := conA Wd (bytes_keep h (Keep.of_below hE8) (fun a h1 h2 => hql a h1 h2))
    rw [HA.out] at conB
    have hszd := hE8.size
    have hDl := hPl D hPD
    generalize (lastX xs).getD 0 0 = y0 at *
    have con5 := isDigit_any y0 Wd
    have hy0 := Ref.u8_lt y0
    clear hE4 hE5 hym hyl hpy hcl hbs hblk hE2 hE3 HX hx8 hE6 hE7 conA h hsmall
    cases hd : Ref.decB y0 with
    | false =>
      have HB := Lib.hid (show hb = true by rw [HXX.out, hd]; rfl)
      rw [hd] at con5
      clear hd HXX conB
      gi_wp2_with fail
      refine ⟨trivial, (callsIn_wide.2 con5).mono ?_⟩
      rintro e w' ⟨rfl, rfl⟩
      clear con5
      gi_wp2_with fail
      refine ⟨trivial, ?_⟩
      gi_wp2
      have hKd : (Wd.setCell ⟨w.heap.size, 0, none⟩ (.bool true)).heap[D]? = some (.deferred (some [])) := (Keep.setCell (S := fun b => b = D) Wd ⟨w.heap.size, 0, none⟩ _ (show ¬ w.heap.size = D by omega)).heap rfl hK
      refine ⟨by simp, .inl ⟨_, _, rfl, run_takeDeferred hKd, ?_⟩⟩
      refine ⟨_, results_bool rfl _ _ w.heap.size _ rfl ((kp (fun b => b = w.heap.size) _ (by omega)).boxed (hE1.set _) rfl).cell, ?_, ?_⟩
      · rw [HB.out]
      · have h5 := hE8.setCell (p := ⟨w.heap.size, 0, none⟩) (Nat.le_refl _) (.bool true)
        exact h5.trans ((kp (fun b => b < w.heap.size) _ (by omega)).below h5.size)
    | true =>
      have HB := Lib.hid (show hb = ab by rw [HXX.out, hd]; rfl)
      rw [hd] at con5
      clear hd HXX
      gi_wp2_with fail
      refine ⟨trivial, (callsIn_wide.2 con5).mono ?_⟩
      rintro e w' ⟨rfl, rfl⟩
      clear con5
      gi_wp2_with fail
      refine ⟨trivial, (callsIn_wide.2 conB).mono ?_⟩
      rintro e w4 ⟨rfl, hb4⟩
      clear conB
      have e1 := (Keep.of_below hb4).boxed hE1 hE1.lt
      have k14 := e1.cell
      have z14 := e1.frozen
      have hK4 : w4.heap[D]? = some (.deferred (some [])) := (hb4.block D hDl).trans hK
      have hE4 := hE8.trans (hb4.mono hszd)
      gi_wp2
      have hKd : (w4.setCell ⟨w.heap.size, 0, none⟩ (.bool ab)).heap[D]? = some (.deferred (some [])) := (Keep.setCell (S := fun b => b = D) w4 ⟨w.heap.size, 0, none⟩ _ (show ¬ w.heap.size = D by omega)).heap rfl hK4
      refine ⟨by simp, .inl ⟨_, _, rfl, run_takeDeferred hKd, ?_⟩⟩
      refine ⟨_, results_bool rfl _ _ w.heap.size _ rfl ((kp (fun b => b = w.heap.size) _ (by omega)).boxed (e1.set _) rfl).cell, ?_, ?_⟩
      · rw [HB.out]
      · have h5 := hE4.setCell (p := ⟨w.heap.size, 0, none⟩) (Nat.le_refl _) (.bool ab)
        exact h5.trans ((kp (fun b => b < w.heap.size) _ (by omega)).below h5.size)
  case stop =>
    rintro D cc pre rest Pv Wd hD hPD hPl hxs ⟨rfl, hge, hK1, hE1, hE3, hE4⟩ hK
    have kp : ∀ (S : Nat → Prop) (W : World), ¬ S D → Keep S W (W.putObj D (.deferred none)) := fun S W h => Keep.putObj _ _ _ h
    clear hxs
    gi_wp2
    refine ⟨by simp, .inl ⟨_, _, rfl, run_takeDeferred hK, ?_⟩⟩
    refine ⟨_, results_bool rfl _ _ w.heap.size _ rfl ((kp (fun b => b = w.heap.size) _ (by omega)).boxed hE1 rfl).cell, ?_, ?_⟩
    · rw [hE3]
    · exact hE4.trans ((kp (fun b => b < w.heap.size) _ (by omega)).below hE4.size)

end Go.Proofs.YtajojgimbagjoaaDoor.Host

namespace Go.Proofs.YtajojgimbagjoaaDoor.Url
open Go.RowKit Go.Shelf
attribute [local go_sem] Oper.semAt_some

/-- The slice v reads as l. -/
def By (w : World) (v : Value) (l : List UInt8) : Prop :=
  ∃ q c, v = .slice q l.length c ∧ l.length ≤ c ∧ c ≤ maxLen ∧ (q = none → c = 0) ∧ Lib.BytesIn w q l.length (Lib.numsL l)
theorem by_nil (w : World) : By w (.slice none 0 0) [] := ⟨none, 0, rfl, Nat.le_refl _, Nat.zero_le _, fun _ => rfl, Lib.BytesIn.nil _ _ _⟩
theorem bytes_on {w w' : World} {q : Option Addr} {n : Nat} {xs : List Int} (h : Lib.BytesIn w q n xs) (hk : Below w.heap.size w w') : Lib.BytesIn w' q n xs := bytes_keep h (Keep.of_below hk) (bytes_lt h)
theorem By.on {w w' : World} {v : Value} {l : List UInt8} (h : By w v l) (hk : Below w.heap.size w w') : By w' v l := by
  obtain ⟨q, c, h1, h2, h3, h4, h5⟩ := h
  exact ⟨q, c, h1, h2, h3, h4, bytes_on h5 hk⟩
theorem By.drew {w : World} {v : Value} {l : List UInt8} (h : By w v l) : By w.drew v l := h
theorem By.row {w : World} {base n : Nat} {v : Value} {l : List UInt8} (h : w.ownsRow base 5 1 v n ((Lib.numsL l).map (Value.int .u8))) : By w v l := by
  obtain ⟨q, c, rfl, rfl, h2, h3, h4, h5⟩ := row_open h
  refine ⟨q, c, rfl, h2, h3, fun hq => ?_, h4⟩
  subst hq
  rcases h.2 with ⟨hv, _⟩ | ⟨g, cap, cur, hv, _⟩
  · injection hv
  · cases hv
theorem below_drewN (w : World) (m : Nat) : Below w.heap.size w (w.drewN m) := ⟨rfl, rfl, rfl, Nat.le_refl _, fun _ _ => rfl⟩
/-- By its parts. -/
theorem By.at {w : World} {q : Option Addr} {n c : Nat} {l : List UInt8} (h : By w (.slice q n c) l) : l.length = n ∧ n ≤ c ∧ c ≤ maxLen ∧ (q = none → n = 0 ∧ c = 0) ∧ Lib.BytesIn w q n (Lib.numsL l) := by
  obtain ⟨q', c', he, h2, h3, h4, h5⟩ := h
  cases he
  exact ⟨rfl, h2, h3, fun hq => by have := h4 hq; omega, h5⟩
theorem By.of {w : World} {q : Option Addr} {n c : Nat} {l : List UInt8} (h1 : l.length = n) (h2 : n ≤ c) (h3 : c ≤ maxLen) (h4 : q = none → c = 0) (h5 : Lib.BytesIn w q n (Lib.numsL l)) : By w (.slice q n c) l := by
  subst h1; exact ⟨q, c, rfl, h2, h3, h4, h5⟩

theorem run_slice_at (q : Option Addr) (n c i : Nat) (W : World) (hi : i ≤ n) :
    (Instr.slice 22 (.slice q n c) (some (.int .i64 (i : Int))) none none).run Tryd.prog W = .ok (.slice (subA q c i) (n - i) (c - i)) W := by
  have hs : ∀ w, (Go.sizeOf 5).run Tryd.prog w = .ok 1 w := Tryd.sizeOf5
  have he : Tryd.prog.elem 22 = 5 := by kernel_rfl
  have h := run_slice_l (P := Tryd.prog) (w := W) 22 q n c (by rw [he]; exact Tryd.underlying22) .i64 (i : Int) (by omega) (by omega)
  rw [h, he, hs]
  simp only [Result.andThen, sliced, subA, Nat.mul_one, Int.toNat_natCast]
theorem subA_none {q : Option Addr} {c l : Nat} (h : subA q c l = none) : q = none := by
  unfold subA at h
  split at h
  · exact h
  · cases q with
    | none => rfl
    | some a => simp at h
/-- A piece of what a slice reads as. -/
theorem By.sub {w : World} {q : Option Addr} {n c i j : Nat} {l : List UInt8} (h : By w (.slice q n c) l) (hij : i ≤ j) (hj : j ≤ n) : By w (.slice (subA q c i) (j - i) (c - i)) (sub l i j) := by
  obtain ⟨h1, h2, h3, h4, h5⟩ := h.at
  exact By.of (sub_length l i j (by omega)) (by omega) (by omega) (fun hq => by have := h4 (subA_none hq); omega) (bytes_sub h5 h1 hij hj h2)

set_option maxRecDepth 100000 in
set_option maxHeartbeats 8000000 in
theorem atSlash_any (q : Option Addr) (n c : Nat) (l : List UInt8) (w : World) (h : By w (.slice q n c) l) :
    Calls Tryd.prog 25 #[.slice q n c] w fun e w' => ∃ v1 v2, e = .returned (.tuple #[v1, v2]) ∧ By w v1 (aheadL 47 l) ∧ By w v2 (l.drop (aheadL 47 l).length) ∧ Below w.heap.size w w' ∧ w'.heap = w.heap := by
  obtain ⟨hl, hnc, hcm, hnil, hb⟩ := h.at
  have hix := IndexByte_any q n c l 47 w hl hnil hb
  have hge := Lib.indexByte_ge l 47
  have hlt := index_lt l 47
  have ha := (at_ahead 47 l).1
  by_cases h0 : 0 ≤ Lib.indexByte l 47
  · obtain ⟨k, hk⟩ : ∃ k : Nat, Lib.indexByte l 47 = (k : Int) := ⟨(Lib.indexByte l 47).toNat, by omega⟩
    obtain ⟨e1, _, _⟩ := at_found 47 l k hk
    rw [hk] at hix hlt
    have hkn : k < n := by omega
    have hlk : (l.take k).length = k := by rw [List.length_take]; omega
    have hb1 := h.sub (Nat.zero_le k) (by omega)
    have hb2 := h.sub (show k ≤ n from by omega) (Nat.le_refl n)
    rw [← ha, e1, hlk]
    rw [sub_to, Nat.sub_zero, Nat.sub_zero] at hb1
    rw [← hl, sub_from, hl] at hb2
    have hr1 : ∀ W, (Instr.slice 22 (.slice q n c) none (some (.int .i64 (k : Int))) none).run Tryd.prog W = .ok (.slice (subA q c 0) k c) W := fun W => run_slice_to q n c k W (by omega)
    have hr2 : ∀ W, (Instr.slice 22 (.slice q n c) (some (.int .i64 (k : Int))) none none).run Tryd.prog W = .ok (.slice (subA q c k) (n - k) (c - k)) W := fun W => run_slice_at q n c k W (by omega)
    clear e1 h0 hge hk h hlk ha hb hnil hl
    generalize l.take k = l1 at *
    generalize l.drop k = l2 at *
    generalize hqa : subA q c 0 = qa at *
    generalize hqb : subA q c k = qb at *
    clear hqa hqb
    go_enter Tryd.func25, Tryd.ntmps25
    go_wp2_with fail
    refine hix.mono ?_
    rintro e w' ⟨rfl, hw⟩
    subst hw
    go_wp2
    go_quiet (fail)
    go_wp2
    go_ret2
    exact ⟨_, _, rfl, hb1, hb2, below_drewN _ _, rfl⟩
  · have h1 : Lib.indexByte l 47 = -1 := by omega
    obtain ⟨e1, _, _⟩ := at_none 47 l h1
    rw [h1] at hix
    rw [← ha, e1, List.drop_length]
    clear e1 h0 hge h1 ha hb hnil hl
    go_enter Tryd.func25, Tryd.ntmps25
    go_wp2_with fail
    refine hix.mono ?_
    rintro e w' ⟨rfl, hw⟩
    subst hw
    go_wp2
    go_ret2
    exact ⟨_, _, rfl, h, by_nil _, Below.refl _ _, rfl⟩

end Go.Proofs.YtajojgimbagjoaaDoor.Url

namespace Go.Proofs.YtajojgimbagjoaaDoor.Url
open Go.RowKit Go.Shelf
attribute [local go_sem] Oper.semAt_some

def byV (l : List UInt8) : List Value := (Lib.numsL l).map (Value.int .u8)
theorem byV_app (l m : List UInt8) : byV (l ++ m) = byV l ++ byV m := by simp [byV, Lib.numsL]

set_option maxRecDepth 100000 in
set_option maxHeartbeats 4000000 in
theorem Grow_nil (n : Nat) (w : World) (h0 : 0 < n) (hn : n ≤ 1099511627776) :
    Calls Tryd.prog 82 #[.slice none 0 0, .int .i64 n] w fun e w' => ∃ v, e = .returned v ∧ w'.ownsRow w.heap.size 5 1 v 0 [] ∧ Below w.heap.size w w' := by
  obtain ⟨i0, hi0, hz0, hz1, hz2⟩ := info_parts info_u8
  have h1 : ¬ ((n : Int) < 0) := by omega
  have h4 : (n : Int) > 0 := by omega
  have h4' : decide (0 < n) = true := by simp; omega
  have hold : (Builtin.firstCells i0.size 0 (.slice none 0 0)).run Tryd.prog w.drew = .ok ([] : List Value).toArray w.drew := run_firstCells_none w.drew i0.size 0 0 0
  have hrz := Lib.run_append_grow_zeros (P := Tryd.prog) w 22 3 22 5 i0 (.int .u8 0) .i64 .i64 Tryd.underlying22 Tryd.underlying3 hi0 hz0 none 0 0 [] hold n h0 (by omega) (by omega) (by omega) (by rw [hz2]; omega)
    (growslice_fits (by omega) (by rw [hz2]; omega))
  simp only [Nat.zero_add] at hrz
  have hG : n ≤ grownCap w n 0 5 := grownCap_ge w _ _ _
  have hGm : grownCap w n 0 5 ≤ maxLen := grownCap_le_maxLen w n 0 5 (by unfold maxLen; omega)
  have hz : ∀ k, (Builtin.zeroCells (Value.int IntKind.u8 0).cells k).size = k := fun k => by simp [Builtin.zeroCells, Value.cells]
  have hsz : (([] : List Value).toArray ++ Builtin.zeroCells (Value.int IntKind.u8 0).cells n ++ Builtin.zeroCells (Value.int IntKind.u8 0).cells (grownCap w n 0 5 - n)).size = grownCap w n 0 5 * 1 := by
    rw [Array.size_append, Array.size_append, hz, hz, List.size_toArray, List.length_nil]; omega
  have hown := World.ownsRow_made (e := 5) (size := 1) (base := w.heap.size) w.drew _ (grownCap w n 0 5) (Nat.le_refl _) hGm hsz
  have hbel := (Below.refl w.heap.size w).drew.alloc (Nat.le_refl _) (.cells (([] : List Value).toArray ++ Builtin.zeroCells (Value.int IntKind.u8 0).cells n ++ Builtin.zeroCells (Value.int IntKind.u8 0).cells (grownCap w n 0 5 - n)) 5)
  have hgm : ((grownCap w n 0 5 : Nat) : Int) ≤ 9223372036854775807 := by unfold maxLen at hGm; omega
  clear hold hsz hGm hz
  generalize grownCap w n 0 5 = G at *
  generalize (([] : List Value).toArray ++ Builtin.zeroCells (Value.int IntKind.u8 0).cells n ++ Builtin.zeroCells (Value.int IntKind.u8 0).cells (G - n)) = cs at *
  go_enter Tryd.func82, Tryd.ntmps82
  go_wp2_with (at_builtin; refine Lib.wpList_append_run _ rfl _ _ _ _ rfl _ _ rfl rfl _ _ hrz ?_)
  go_ret
  exact ⟨_, rfl, hown, hbel⟩

theorem flat_take (ls : List (List UInt8)) (k : Nat) (h : k < ls.length) : (ls.take (k + 1)).flatten = (ls.take k).flatten ++ ls.getD k [] := by
  rw [List.take_succ_eq_append_getElem h, List.flatten_append]
  simp [List.getD, List.getElem?_eq_getElem h]
theorem flat_take_le (ls : List (List UInt8)) (k : Nat) : (ls.take k).flatten.length ≤ ls.flatten.length := by
  have h : ls.flatten = (ls.take k).flatten ++ (ls.drop k).flatten := by rw [← List.flatten_append, List.take_append_drop]
  rw [h, List.length_append]; omega

set_option maxRecDepth 100000 in
set_option maxHeartbeats 4000000 in
theorem Concat_any (b m c : Nat) (ls : List (List UInt8)) (w : World) (hm : ls.length = m) (hmm : m ≤ 1000) (hP : ∀ i, i < m → ∃ q n c, w.cell? ⟨b, i, none⟩ = some (.slice q n c) ∧ By w (.slice q n c) (ls.getD i [])) (hs : ls.flatten.length ≤ 1099511627776) (h0 : 0 < ls.flatten.length) :
    Calls Tryd.prog 50 #[.slice (some ⟨b, 0, none⟩) m c] w fun e w' => ∃ v, e = .returned v ∧ w'.ownsRow w.heap.size 5 1 v ls.flatten.length (byV ls.flatten) ∧ Below w.heap.size w w' := by
  obtain ⟨N, hN⟩ : ∃ N, ls.flatten.length = N := ⟨_, rfl⟩
  rw [hN] at hs h0 ⊢
  have HN := Lib.hid hN
  have HP := Lib.hid hP
  have HM := Lib.hid hm
  clear hN hP hm
  have hb : 0 < m → b < w.heap.size := fun h => by obtain ⟨q, n, c, h1, _⟩ := HP.out 0 h; exact World.block_lt_of_cell? w _ h1
  have con := Grow_nil N w h0 hs
  go_enter Tryd.func50, Tryd.ntmps50
  go_wp2
  go_loop [3, 11] (fun s i => ∃ k t : Nat, k ≤ m ∧ i = .int .i64 k ∧ s = .int .i64 t ∧ Hid (t = (ls.take k).flatten.length)) (fun _ i => m - (intOf i).toNat)
  case atStart => exact ⟨0, 0, Nat.zero_le _, rfl, rfl, by simp [Hid]⟩
  case round =>
    obtain ⟨k, t, hk, rfl, rfl, HT⟩ := hrel
    by_cases hlt : k < m
    · obtain ⟨q, n, c', hc, hby⟩ := HP.out k hlt
      have ht : (ls.take (k + 1)).flatten.length = t + n := by rw [flat_take ls k (by rw [HM.out]; exact hlt), List.length_append, ← HT.out, hby.at.1]
      have hle := flat_take_le ls (k + 1)
      rw [HN.out, ht] at hle
      have HT2 := Lib.hid ht
      clear ht hby
      have d1 : decide ((t : Int) + (n : Int) < 0) = false := by simp; omega
      go_wp2
      go_round
      case rel => exact ⟨k + 1, t + n, by omega, by go_num, by go_num, HT2.out.symm⟩
      case measure => simp [intOf]; omega
    · have htN : t = N := by rw [HT.out, List.take_of_length_le (by rw [HM.out]; omega), HN.out]
      subst htN
      clear HT
      go_wp2_with fail
      refine con.mono ?_
      rintro e w1 ⟨v1, rfl, hown, hbel⟩
      clear con
      go_wp2
      go_loopw [6, 27] (fun v i wr => ∃ k n : Nat, k ≤ m ∧ i = .int .i64 k ∧ wr.ownsRow w.heap.size 5 1 v n (byV (ls.take k).flatten) ∧ Hid (n = (ls.take k).flatten.length) ∧ Below w.heap.size w wr) (fun _ i _ => m - (intOf i).toNat)
      case atStart => exact ⟨0, 0, Nat.zero_le _, rfl, hown, by simp [Hid], hbel⟩
      case round =>
        obtain ⟨j, n, hj, rfl, hrow, HR, hbw⟩ := hrel
        by_cases hjl : j < m
        · obtain ⟨q, n', c', hc, hby⟩ := HP.out j hjl
          have hc' : wr.cell? ⟨b, j, none⟩ = some (.slice q n' c') := (World.cell?_of_block (hbw.block _ (hb (by omega)))).trans hc
          obtain ⟨h1, h2, h3, h4, h5⟩ := (hby.on hbw).at
          have ht : (ls.take (j + 1)).flatten = (ls.take j).flatten ++ ls.getD j [] := flat_take ls j (by rw [HM.out]; exact hjl)
          have hle := flat_take_le ls (j + 1)
          have htl : (ls.take (j + 1)).flatten.length = n + n' := by rw [ht, List.length_append, ← HR.out, h1]
          rw [htl, HN.out] at hle
          have HT := Lib.hid ht
          have HTL := Lib.hid htl
          have hbs := hbw.size
          clear ht htl hc hby hown hbel h2 h3
          generalize ls.getD j [] = x at *
          go_wp2_with (at_builtin; refine wpList_append_bytes rfl _ _ rfl w.heap.size _ n _ rfl hrow q n' c' x rfl h4 h1 h5 (by omega) hbs ?_; intro v4 w4 hown4 hgrow4)
          go_roundw
          case rel =>
            refine ⟨j + 1, n + n', by omega, by go_num, ?_, HTL.out.symm, hbw.trans ((Below.refl _ _).grown hgrow4 hbs (fun b h => (hrow.lt b h).1))⟩
            rw [HT.out, byV_app]; exact hown4
          case measure => simp [intOf]; omega
        · have hnN : n = t := by rw [HR.out, List.take_of_length_le (by rw [HM.out]; omega), HN.out]
          have hall : ls.take j = ls := List.take_of_length_le (by rw [HM.out]; omega)
          subst hnN
          rw [hall] at hrow
          clear hall HR
          go_wp2
          go_ret
          exact ⟨_, rfl, hrow, hbw⟩

end Go.Proofs.YtajojgimbagjoaaDoor.Url

namespace Go.Proofs.YtajojgimbagjoaaDoor.Org
open Go.RowKit Go.Shelf Url
attribute [local go_sem] Oper.semAt_some

def setRen : Go.Shelf.Ren := ⟨fun | 11 => 59 | 16 => 60 | n => n, fun | 0 => 0 | 3 => 3 | 4 => 4 | 5 => 5 | 9 => 9 | 27 => 87 | 31 => 113 | n => n, fun | n => n⟩
theorem set11 : Go.Proofs.SlLaysV.n11 Tryd.prog setRen := {
  mixed := by kernel_rfl
  f11 := Tryd.func59.trans (congrArg some (by kernel_rfl))
  t0 := Tryd.underlying0, a0 := Tryd.isAgg0, z0 := Tryd.sizeOf0, v0 := Tryd.zeroValue0
  t3 := Tryd.underlying3, a3 := Tryd.isAgg3, z3 := Tryd.sizeOf3, v3 := Tryd.zeroValue3
  t4 := Tryd.underlying4, a4 := Tryd.isAgg4, z4 := Tryd.sizeOf4, v4 := Tryd.zeroValue4
  t5 := Tryd.underlying5, a5 := Tryd.isAgg5, z5 := Tryd.sizeOf5, v5 := Tryd.zeroValue5
  t9 := Tryd.underlying9, a9 := Tryd.isAgg9, z9 := Tryd.sizeOf9, v9 := Tryd.zeroValue9
  t27 := Tryd.underlying87, a27 := Tryd.isAgg87, z27 := Tryd.sizeOf87 }
theorem set16 : Go.Proofs.SlLaysV.n16 Tryd.prog setRen := {
  mixed := by kernel_rfl
  f16 := Tryd.func60.trans (congrArg some (by kernel_rfl))
  t0 := Tryd.underlying0, a0 := Tryd.isAgg0, z0 := Tryd.sizeOf0, v0 := Tryd.zeroValue0
  t4 := Tryd.underlying4, a4 := Tryd.isAgg4, z4 := Tryd.sizeOf4, v4 := Tryd.zeroValue4
  t5 := Tryd.underlying5, a5 := Tryd.isAgg5, z5 := Tryd.sizeOf5, v5 := Tryd.zeroValue5
  t27 := Tryd.underlying87, a27 := Tryd.isAgg87, z27 := Tryd.sizeOf87
  t31 := Tryd.underlying113, a31 := Tryd.isAgg113, z31 := Tryd.sizeOf113, v31 := Tryd.zeroValue113 }
theorem info_set : (Tryd.prog.info? 87).map (fun i => (i.zero, i.size)) = some (some (.agg (Array.replicate 256 (.bool false))), 256) := by kernel_rfl

theorem set_zero : Tryd.zeroCells87 = Array.replicate 256 (.bool false) := by kernel_rfl

/-- "/?#". -/
def sepC : List UInt8 := [47, 63, 35]
theorem makeSet_any (w : World) : Calls Tryd.prog 59 #[.string ⟨sepC.toArray⟩] w fun e w' => e = .returned (.tuple #[.agg (Lib.setCells sepC), .bool true]) ∧ w' = w.alloc (.cells (Lib.setCells sepC) 87) :=
  Any.bytes_makeASCIISet set11 (zero_of_info info_set).1 (zero_of_info info_set).2 ⟨sepC.toArray⟩ w (by decide) (by
    intro j b hj
    have : b ∈ sepC := List.mem_of_getElem? hj
    simp only [sepC, List.mem_cons, List.not_mem_nil, or_false] at this
    rcases this with rfl | rfl | rfl <;> decide)
theorem has_any (b : Nat) (x : UInt8) (v : Bool) (w : World) (hc : w.cell? ⟨b, x.toNat, none⟩ = some (.bool v)) :
    Calls Tryd.prog 60 #[.pointer (some ⟨b, 0, none⟩), .int .u8 x.toNat] w fun e w' => e = .returned (.bool v) ∧ w' = w :=
  Any.bytes_asciiSet_contains set16 b x v w hc

set_option maxHeartbeats 1000000 in
theorem shouldUse_any (n : Int) (w : World) :
    Calls Tryd.prog 58 #[.int .i64 n] w fun e w' => e = .returned (.bool (decide (8 < n))) ∧ w' = w := by
  go_enter Tryd.func58, Tryd.ntmps58
  go_wp2
  go_ret
  exact ⟨rfl, rfl⟩

theorem run_indexSep (x : UInt8) (w : World) : (callFunc 56 #[.string ⟨#[47, 63, 35]⟩, .int .u8 (x.toNat : Int)]).run Tryd.prog w = .ok (.value (.int .i64 (Lib.indexByte sepC x))) w := by
  rw [run_callFunc_extern Tryd.func56 (by kernel_rfl) (by kernel_rfl) (by kernel_rfl) (e := Extern.BytealgIndexByte.indexByte) (by kernel_rfl), Lib.run_indexByteString]
  simp [Result.andThen, sepC]
theorem sep_in (x : UInt8) (h : x ∈ sepC) : decide (0 ≤ Lib.indexByte sepC x) = true ∧ x.toNat < 128 := by
  simp only [sepC, List.mem_cons, List.not_mem_nil, or_false] at h
  rcases h with rfl | rfl | rfl <;> decide
theorem sep_out (x : UInt8) (h : x ∉ sepC) : decide (0 ≤ Lib.indexByte sepC x) = false := by
  rw [← Lib.contains_iff_indexByte]
  simpa using h
/-- What IndexAny answers. -/
def sepV (k n : Nat) : Int := if k < n then (k : Int) else -1

set_option maxRecDepth 100000 in
set_option maxHeartbeats 4000000 in
/-- A text of one byte. -/
theorem IndexAny_one (q : Option Addr) (c k : Nat) (l : List UInt8) (w : World) (h : By w (.slice q 1 c) l) (hno : ∀ j, j < k → (l.getD j 0).toNat < 128 ∧ l.getD j 0 ∉ sepC) (hk : k = 1 ∨ (k < 1 ∧ l.getD k 0 ∈ sepC)) :
    Calls Tryd.prog 34 #[.slice q 1 c, .string ⟨#[47, 63, 35]⟩] w fun e w' => e = .returned (.int .i64 (sepV k 1)) ∧ Below w.heap.size w w' := by
  obtain ⟨h1, h2, h3, h4, h5⟩ := h.at
  obtain ⟨b, o, rfl, hc⟩ := h5.at (by omega)
  have hc0 := hc 0 (by omega)
  rw [numsL_getD _ _ (by omega), Nat.add_zero] at hc0
  obtain ⟨x, hx⟩ : ∃ x, l.getD 0 0 = x := ⟨_, rfl⟩
  rw [hx] at hc0
  have hrun := run_indexSep x
  rcases hk with rfl | ⟨hk0, hk⟩
  · obtain ⟨h128, hnot⟩ := hno 0 (by omega)
    rw [hx] at h128 hnot
    have hix := sep_out x hnot
    have d1 : decide ((128 : Int) ≤ (x.toNat : Int)) = false := by simp; omega
    clear hno hnot hc h5 h h1 hx
    generalize Lib.indexByte sepC x = ix at *
    go_enter Tryd.func34, Tryd.ntmps34
    go_wp2
    go_ret
    exact ⟨rfl, Below.refl _ _⟩
  · obtain rfl : k = 0 := by omega
    rw [hx] at hk
    obtain ⟨hix, h128⟩ := sep_in x hk
    have d1 : decide ((128 : Int) ≤ (x.toNat : Int)) = false := by simp; omega
    clear hno hk hc h5 h h1 hx
    generalize Lib.indexByte sepC x = ix at *
    go_enter Tryd.func34, Tryd.ntmps34
    go_wp2
    go_ret
    exact ⟨rfl, Below.refl _ _⟩

set_option maxRecDepth 100000 in
set_option maxHeartbeats 8000000 in
/-- A text of at most eight bytes. -/
theorem IndexAny_short (q : Option Addr) (n c k : Nat) (l : List UInt8) (w : World) (h : By w (.slice q n c) l) (hn1 : n ≠ 1) (hn8 : n ≤ 8) (hno : ∀ j, j < k → (l.getD j 0).toNat < 128 ∧ l.getD j 0 ∉ sepC) (hk : k = n ∨ (k < n ∧ l.getD k 0 ∈ sepC)) :
    Calls Tryd.prog 34 #[.slice q n c, .string ⟨#[47, 63, 35]⟩] w fun e w' => e = .returned (.int .i64 (sepV k n)) ∧ Below w.heap.size w w' := by
  obtain ⟨h1, h2, h3, h4, h5⟩ := h.at
  have H1 := Lib.hid h1
  have H5 := Lib.hid h5
  have HN := Lib.hid hno
  have HK := Lib.hid hk
  have hkn : k ≤ n := by rcases hk with h | h <;> omega
  have hne : ((n : Int) == 1) = false := by simp; omega
  have h8 : decide ((8 : Int) < (n : Int)) = false := by simp; omega
  have con := shouldUse_any (n : Int) w
  rw [h8] at con
  clear h1 h4 h5 h hno hk hn1 h8
  go_enter Tryd.func34, Tryd.ntmps34
  go_wp2_with fail
  refine con.mono ?_
  rintro e w' ⟨rfl, rfl⟩
  clear con
  go_wp2
  go_loop [12] (fun i => ∃ j : Nat, j ≤ k ∧ i = .int .i64 j) (fun i => n - (intOf i).toNat)
  case atStart => exact ⟨0, Nat.zero_le _, rfl⟩
  case round =>
    obtain ⟨j, hj, rfl⟩ := hrel
    have hwr : wrap64 ((j : Int) + 1) = (j : Int) + 1 := by unfold wrap64; omega
    by_cases hjn : j < n
    · obtain ⟨b, o, rfl, hc⟩ := H5.out.at (by omega)
      have hc0 := hc j hjn
      have e1 := H1.out
      rw [numsL_getD _ _ (by omega)] at hc0
      obtain ⟨x, hx⟩ : ∃ x, l.getD j 0 = x := ⟨_, rfl⟩
      rw [hx] at hc0
      have hrun := run_indexSep x
      by_cases hjk : j < k
      · obtain ⟨h128, hnot⟩ := HN.out j hjk
        rw [hx] at h128 hnot
        have hix := sep_out x hnot
        have d1 : decide ((x.toNat : Int) < (128 : Int)) = true := by simp; omega
        clear hnot hc hx e1
        generalize Lib.indexByte sepC x = ix at *
        go_wp2
        go_round
        case rel => exact ⟨j + 1, by omega, by go_num⟩
        case measure => simp [intOf]; omega
      · have hjk' : j = k := by omega
        have hin : x ∈ sepC := by rcases HK.out with h | ⟨_, h⟩
                                  · omega
                                  · rw [← hx, hjk']; exact h
        obtain ⟨hix, h128⟩ := sep_in x hin
        have d1 : decide ((x.toNat : Int) < (128 : Int)) = true := by simp; omega
        have HV := Lib.hid (show sepV k n = (j : Int) by unfold sepV; rw [if_pos (by omega), hjk'])
        clear hin hc hx e1 hjk' hjk
        generalize Lib.indexByte sepC x = ix at *
        go_wp2
        go_ret
        exact ⟨(by rw [HV.out]; try rfl), Below.refl _ _⟩
    · have HV := Lib.hid (show sepV k n = (-1 : Int) by unfold sepV; rw [if_neg (by omega)])
      have hd : decide ((j : Int) < (n : Int)) = false := by simp; omega
      go_wp2
      go_ret
      exact ⟨(by rw [HV.out]; try rfl), Below.refl _ _⟩

set_option maxRecDepth 1000000 in
set_option maxHeartbeats 8000000 in
/-- A text of more than eight bytes. -/
theorem IndexAny_long (q : Option Addr) (n c k : Nat) (l : List UInt8) (w : World) (h : By w (.slice q n c) l) (hn8 : 8 < n) (hn47 : n ≤ 140737488355328) (hno : ∀ j, j < k → (l.getD j 0).toNat < 128 ∧ l.getD j 0 ∉ sepC) (hk : k = n ∨ (k < n ∧ l.getD k 0 ∈ sepC)) :
    Calls Tryd.prog 34 #[.slice q n c, .string ⟨#[47, 63, 35]⟩] w fun e w' => e = .returned (.int .i64 (sepV k n)) ∧ Below w.heap.size w w' := by
  obtain ⟨hS1, hS2, hS3⟩ : (Lib.setCells sepC).size = 256 ∧ (Lib.setCells sepC).all (·.oneCell') = true ∧ ∀ x : UInt8, (Lib.setCells sepC)[x.toNat]? = some (.bool (sepC.contains x)) := ⟨Lib.setCells_size _, Lib.setCells_one _, Lib.setCells_at sepC⟩
  have conM := fun w => makeSet_any w
  obtain ⟨S, hS⟩ : ∃ S, Lib.setCells sepC = S := ⟨_, rfl⟩
  rw [hS] at hS1 hS2 hS3 conM
  have hsc : (storeCells ⟨w.heap.size + 1, 0, none⟩ S.toList 0).run Tryd.prog ((w.alloc (.cells S 87)).alloc (.cells (Array.replicate 256 (.bool false)) 87)) = .ok () ((w.alloc (.cells S 87)).alloc (.cells S 87)) := by
    have := run_storeCells_new (P := Tryd.prog) (w.alloc (.cells S 87)) 87 (Array.replicate 256 (.bool false)) S (by rw [hS1]; exact (zero_of_info info_set).2) (by rw [hS1, Array.size_replicate]) hS2
    simpa using this
  obtain ⟨W, hW⟩ : ∃ W, (w.alloc (.cells S 87)).alloc (.cells S 87) = W := ⟨_, rfl⟩
  have hB : Below w.heap.size w W := by rw [← hW]; exact ((Below.refl _ w).alloc (Nat.le_refl _) _).alloc (by simp) _
  have hcell : ∀ x : UInt8, W.cell? ⟨w.heap.size + 1, x.toNat, none⟩ = some (.bool (sepC.contains x)) := fun x => by
    rw [← hW, World.cell?_alloc_at _ _ _ _ (by simp), hS3]
  obtain ⟨h1, h2, h3, h4, h5⟩ := (h.on hB).at
  have H1 := Lib.hid h1
  have H5 := Lib.hid h5
  have HN := Lib.hid hno
  have HK := Lib.hid hk
  have HC := Lib.hid hcell
  have hkn : k ≤ n := by rcases hk with h | h <;> omega
  have hne : ((n : Int) == 1) = false := by simp; omega
  have h8 : decide ((8 : Int) < (n : Int)) = true := by simp; omega
  have con := shouldUse_any (n : Int) w
  rw [h8] at con
  have conM := conM w
  rw [hW] at hsc
  clear h1 h4 h5 h hno hk h8 hcell hW hS hS3 hS2
  go_enter Tryd.func34, Tryd.ntmps34
  go_wp2_with fail
  refine con.mono ?_
  rintro e w' ⟨rfl, rfl⟩
  clear con
  go_wp2_with fail
  refine conM.mono ?_
  rintro e w2 ⟨rfl, rfl⟩
  clear conM
  go_wp2
  rw [set_zero, hsc]
  simp only [Result.andThen]
  rw [Oper.upon_skip]
  go_wp2
  go_loop [62] (fun i => ∃ j : Nat, j ≤ k ∧ i = .int .i64 j) (fun i => n - (intOf i).toNat)
  case atStart => exact ⟨0, Nat.zero_le _, rfl⟩
  case round =>
    obtain ⟨j, hj, rfl⟩ := hrel
    have hwr : wrap64 ((j : Int) + 1) = (j : Int) + 1 := by unfold wrap64; omega
    by_cases hjn : j < n
    · obtain ⟨b, o, rfl, hc⟩ := H5.out.at (by omega)
      have hc0 := hc j hjn
      have e1 := H1.out
      rw [numsL_getD _ _ (by omega)] at hc0
      obtain ⟨x, hx⟩ : ∃ x, l.getD j 0 = x := ⟨_, rfl⟩
      rw [hx] at hc0
      have hcx := HC.out x
      by_cases hjk : j < k
      · obtain ⟨_, hnot⟩ := HN.out j hjk
        rw [hx] at hnot
        rw [show sepC.contains x = false by simpa using hnot] at hcx
        have con := has_any _ x _ _ hcx
        clear hnot hc hx e1 hcx
        go_wp2_with fail
        refine con.mono ?_
        rintro e w' ⟨rfl, rfl⟩
        clear con
        go_wp2
        go_round
        case rel => exact ⟨j + 1, by omega, by go_num⟩
        case measure => simp [intOf]; omega
      · have hjk' : j = k := by omega
        have hin : x ∈ sepC := by rcases HK.out with h | ⟨_, h⟩
                                  · omega
                                  · rw [← hx, hjk']; exact h
        rw [show sepC.contains x = true by simpa using hin] at hcx
        have con := has_any _ x _ _ hcx
        have HV := Lib.hid (show sepV k n = (j : Int) by unfold sepV; rw [if_pos (by omega), hjk'])
        clear hin hc hx e1 hjk' hjk hcx
        go_wp2_with fail
        refine con.mono ?_
        rintro e w' ⟨rfl, rfl⟩
        clear con
        go_wp2
        go_ret
        exact ⟨(by rw [HV.out]; try rfl), hB⟩
    · have HV := Lib.hid (show sepV k n = (-1 : Int) by unfold sepV; rw [if_neg (by omega)])
      have hd : decide ((j : Int) < (n : Int)) = false := by simp; omega
      go_wp2
      go_ret
      exact ⟨(by rw [HV.out]; try rfl), hB⟩

/-- bytes.ContainsAny at "/?#". -/
theorem ContainsAny_sep (q : Option Addr) (n c k : Nat) (l : List UInt8) (w : World) (h : By w (.slice q n c) l) (hn47 : n ≤ 140737488355328) (hno : ∀ j, j < k → (l.getD j 0).toNat < 128 ∧ l.getD j 0 ∉ sepC) (hk : k = n ∨ (k < n ∧ l.getD k 0 ∈ sepC)) :
    Calls Tryd.prog 21 #[.slice q n c, .string ⟨#[47, 63, 35]⟩] w fun e w' => e = .returned (.bool (decide (k < n))) ∧ Below w.heap.size w w' := by
  have con : Calls Tryd.prog 34 #[.slice q n c, .string ⟨#[47, 63, 35]⟩] w fun e w' => e = .returned (.int .i64 (sepV k n)) ∧ Below w.heap.size w w' := by
    by_cases h1 : n = 1
    · subst h1; exact IndexAny_one q c k l w h hno hk
    · by_cases h8 : n ≤ 8
      · exact IndexAny_short q n c k l w h h1 h8 hno hk
      · exact IndexAny_long q n c k l w h (by omega) hn47 hno hk
  have HV := Lib.hid (show decide (k < n) = decide (0 ≤ sepV k n) by
    unfold sepV
    by_cases hkn : k < n
    · rw [if_pos hkn]; simp [hkn]
    · rw [if_neg hkn]; simp [hkn])
  clear h hno hk
  generalize sepV k n = v at *
  go_enter Tryd.func21, Tryd.ntmps21
  go_wp2_with fail
  refine con.mono ?_
  rintro e w' ⟨rfl, hb⟩
  go_wp2
  go_ret
  exact ⟨(by rw [HV.out]; try rfl), hb⟩

end Go.Proofs.YtajojgimbagjoaaDoor.Org

namespace Go.Proofs.YtajojgimbagjoaaDoor.Url
open Go.RowKit Go.Shelf

theorem low_own (l : List UInt8) (s : List UInt8) (hs : Ref.lowL s = s) : sameLow l s = decide (Ref.lowL l = s) := by
  unfold sameLow
  show decide (Ref.lowL l = Ref.lowL s) = _
  rw [hs]

set_option maxRecDepth 100000 in
set_option maxHeartbeats 4000000 in
theorem Own_any (q : Option Addr) (n c : Nat) (l : List UInt8) (w : World) (hl : l.length = n) (hn : n ≤ 140737488355328) (h : Lib.BytesIn w q n (Lib.numsL l)) :
    Calls Tryd.prog 15 #[.slice q n c] w fun e w' => e = .returned (.int .i64 (ownP (Ref.lowL l))) ∧ Below w.heap.size w w' := by
  have kc := fun (w : World) (C : Array Value) (n c : Nat) => Lib.run_convert_bytes_const (P := Tryd.prog) w 22 5 C n c Tryd.underlying22 Tryd.underlying5
  have b1 := bytes_lit (w := w) #[.int .u8 104, .int .u8 116, .int .u8 116, .int .u8 112] httpS (4, 5) rfl
  have hB1 := (Below.refl _ w).alloc (Nat.le_refl _) (.cells #[.int .u8 104, .int .u8 116, .int .u8 116, .int .u8 112] 5 (4, 5))
  have h1 := bytes_on h hB1
  have con1 := cutSame_any q (some ⟨w.heap.size, 0, none⟩) n c 4 4 l httpS _ hl rfl hn (by omega) h1 b1
  rw [low_own l httpS (by decide)] at con1
  have b2 := fun (w : World) => bytes_lit (w := w) #[.int .u8 104, .int .u8 116, .int .u8 116, .int .u8 112, .int .u8 115] httpsS (5, 6) rfl
  have hB2 := fun (w : World) => (Below.refl _ w).alloc (Nat.le_refl _) (.cells #[.int .u8 104, .int .u8 116, .int .u8 116, .int .u8 112, .int .u8 115] 5 (5, 6))
  by_cases e1 : Ref.lowL l = httpS
  · have H := Lib.hid (show (ownP (Ref.lowL l) : Int) = 80 by rw [e1]; rfl)
    rw [decide_eq_true e1] at con1
    clear b1 h1 b2 hB2 e1 h hl
    go_enter Tryd.func15, Tryd.ntmps15
    go_wp2_with fail
    refine con1.mono ?_
    rintro e w' ⟨rfl, rfl⟩
    clear con1
    go_wp2
    go_ret
    exact ⟨(by rw [H.out]; try rfl), hB1⟩
  · rw [decide_eq_false e1] at con1
    clear b1
    go_enter Tryd.func15, Tryd.ntmps15
    go_wp2_with fail
    refine con1.mono ?_
    rintro e W1 ⟨rfl, hW1⟩
    rw [hW1] at hB1 h1
    clear con1 hW1 h
    have h2 := bytes_on h1 (hB2 W1)
    have con2 := cutSame_any q (some ⟨W1.heap.size, 0, none⟩) n c 5 5 l httpsS _ hl rfl hn (by omega) h2 (b2 W1)
    rw [low_own l httpsS (by decide)] at con2
    have hB := hB1.trans ((hB2 W1).mono hB1.size)
    clear h2 b2 hB2 h1 hl hB1
    by_cases e2 : Ref.lowL l = httpsS
    · have H := Lib.hid (show (ownP (Ref.lowL l) : Int) = 443 by rw [e2]; rfl)
      rw [decide_eq_true e2] at con2
      clear e1 e2
      go_wp2_with fail
      refine con2.mono ?_
      rintro e w' ⟨rfl, rfl⟩
      clear con2
      go_wp2
      go_ret
      exact ⟨(by rw [H.out]; try rfl), hB⟩
    · have H := Lib.hid (show (ownP (Ref.lowL l) : Int) = 0 by unfold ownP; rw [if_neg e1, if_neg e2]; rfl)
      rw [decide_eq_false e2] at con2
      clear e1 e2
      go_wp2_with fail
      refine con2.mono ?_
      rintro e w' ⟨rfl, rfl⟩
      clear con2
      go_wp2
      go_ret
      exact ⟨(by rw [H.out]; try rfl), hB⟩

def sepS : List UInt8 := [58, 47, 47]
theorem nums_range (l : List UInt8) : ∀ x ∈ Lib.numsL l, 0 ≤ x ∧ x < 256 := fun x hx => by
  unfold Lib.numsL at hx
  obtain ⟨b, _, rfl⟩ := List.mem_map.1 hx
  have := u8_lt b
  omega
theorem By.take {w : World} {q : Option Addr} {n c k : Nat} {l : List UInt8} (h : By w (.slice q n c) l) (hk : k ≤ n) : By w (.slice q k c) (l.take k) := by
  obtain ⟨h1, h2, h3, h4, h5⟩ := h.at
  exact By.of (by rw [List.length_take]; omega) (by omega) h3 (fun hq => (h4 hq).2) (bytes_take h5 h1 hk)
theorem By.drop {w : World} {q : Option Addr} {n c k : Nat} {l : List UInt8} (h : By w (.slice q n c) l) (hk : k ≤ n) : By w (.slice (subA q c k) (n - k) (c - k)) (l.drop k) := by
  obtain ⟨h1, _⟩ := h.at
  have := h.sub hk (Nat.le_refl n)
  rw [← h1, sub_from, h1] at this
  exact this
theorem Cut_any (q qs : Option Addr) (n c cs : Nat) (l : List UInt8) (w : World) (h : By w (.slice q n c) l) (hn : n < 4294967281) (hG : Gl w) (hs : Lib.BytesIn w qs 3 (Lib.numsL sepS)) :
    Calls Tryd.prog 20 #[.slice q n c, .slice qs 3 cs] w fun e w' => e = .returned (Lib.cutV q n c 3 (sepI l)) ∧ ∃ m, w' = w.drewN m := by
  obtain ⟨⟨m, hm⟩, _⟩ := hG
  obtain ⟨h1, h2, h3, h4, h5⟩ := h.at
  have con := Tryd.bytes_Cut_all q qs n c 3 cs (Lib.numsL l) (Lib.numsL sepS) m w (by rw [Lib.numsL_length, h1]) rfl (nums_range l) (nums_range sepS) h5 hs (fun hq => (h4 hq).2) h2 hn (by omega) hm
  rw [bytesOf_numsL, bytesOf_numsL] at con
  exact con
theorem cut_some {q : Option Addr} {n c k : Nat} {l : List UInt8} (h : sepI l = (k : Int)) : Lib.cutV q n c 3 (sepI l) = .tuple #[.slice q k c, .slice (subA q c (k + 3)) (n - (k + 3)) (c - (k + 3)), .bool true] := by
  unfold Lib.cutV
  rw [h, if_pos (by omega), Int.toNat_natCast]
  rfl
theorem cut_none {q : Option Addr} {n c : Nat} {l : List UInt8} (h : sepI l = -1) : Lib.cutV q n c 3 (sepI l) = .tuple #[.slice q n c, .slice none 0 0, .bool false] := by
  unfold Lib.cutV
  rw [h, if_neg (by decide)]

end Go.Proofs.YtajojgimbagjoaaDoor.Url

namespace Go.Proofs.YtajojgimbagjoaaDoor.Host
open Go.RowKit Go.Shelf

/-- The canon of a host, or nothing. -/
def canL (l : List UInt8) : List UInt8 := if parseE l = 0 then Ref.lowL l else []
/-- A host's canon in a row of one's own, or the error's number. -/
def CanOut (l : List UInt8) (w : World) (e : Ending) (w' : World) : Prop :=
  ∃ v, e = .returned (.tuple #[v, .int .i64 (parseE l)]) ∧ w'.ownsRow w.heap.size 5 1 v (canL l).length ((Lib.numsL (canL l)).map (Value.int .u8)) ∧ Below w.heap.size w w'
theorem can_err {l : List UInt8} {n : Int} {w w' : World} (h : parseE l = n) (hn : n ≠ 0) (hb : Below w.heap.size w w') : CanOut l w (.returned (.tuple #[.slice none 0 0, .int .i64 n])) w' := by
  subst h
  have hc : canL l = [] := by unfold canL; rw [if_neg hn]
  exact ⟨_, rfl, by rw [hc]; exact World.ownsRow_nil _ _ _ _, hb⟩
theorem can_ok {l : List UInt8} {n : Nat} {v : Value} {w w' : World} (h : parseE l = 0) (hl : l.length = n) (hr : w'.ownsRow w.heap.size 5 1 v n ((Lib.numsL (lowL l)).map (Value.int .u8))) (hb : Below w.heap.size w w') : CanOut l w (.returned (.tuple #[v, .int .i64 0])) w' := by
  have hc : canL l = lowL l := by unfold canL; rw [if_pos h]; rfl
  exact ⟨_, by rw [h], by rw [hc, lowL_length, hl]; exact hr, hb⟩

set_option maxRecDepth 100000 in
set_option maxHeartbeats 4000000 in
theorem Parse_any (q : Option Addr) (n c : Nat) (l : List UInt8) (w : World) (hl : l.length = n) (hn : n ≤ 140737488355328) (h : Lib.BytesIn w q n (Lib.numsL l)) :
    Calls Tryd.prog 26 #[.slice q n c] w fun e w' => CanOut l w e w' := by
  by_cases hbig : 253 < n
  · have d1 : decide ((253 : Int) < (n : Int)) = true := by simp; omega
    have H := Lib.hid (Ref.parse_big l (by omega))
    clear h hl
    go_enter Tryd.func26, Tryd.ntmps26
    go_wp2
    go_ret2
    exact can_err H.out (by decide) (Below.refl _ _)
  · have d1 : decide ((253 : Int) < (n : Int)) = false := by simp; omega
    have con := isHost_any q n c l w hl (by omega) h
    have PH := Lib.hid (Ref.parse_host l (by omega))
    have PN := Lib.hid (Ref.parse_none l (by omega))
    have HL := Lib.hid hl
    cases hb : hostB (Ref.splitL 46 l) with
    | false =>
      have H := Lib.hid (PN.out hb)
      rw [hb] at con
      clear hb PH PN h hl
      go_enter Tryd.func26, Tryd.ntmps26
      go_wp2_with fail
      refine con.mono ?_
      rintro e w2 ⟨rfl, hb2⟩
      clear con
      go_wp2
      go_ret2
      exact can_err H.out (by decide) hb2
    | true =>
      have H := Lib.hid (PH.out hb)
      rw [hb] at con
      clear hb PH PN hl
      go_enter Tryd.func26, Tryd.ntmps26
      go_wp2_with fail
      refine con.mono ?_
      rintro e w2 ⟨rfl, hb2⟩
      have con2 := Lower_any q n c l w2 HL.out hn (bytes_keep h (Keep.of_below hb2) (fun a h1 h2 => bytes_lt h a h1 h2))
      clear con h
      go_wp2_with fail
      refine con2.mono ?_
      rintro e w3 ⟨v3, rfl, hrow, hb3⟩
      have hrow' := row_base hrow hb2.size
      have hb' := hb2.trans (hb3.mono hb2.size)
      clear con2 hrow
      go_wp2
      go_ret2
      exact can_ok H.out HL.out hrow' hb'

end Go.Proofs.YtajojgimbagjoaaDoor.Host

namespace Go.Proofs.YtajojgimbagjoaaDoor.Url
open Go.RowKit Go.Shelf

theorem run_append_by (ty : TypeId) (base : Nat) (v : Value) (n : Nat) (xs : List Value) (w : World) (hown : w.ownsRow base 5 1 v n xs) (vx : Value) (bs : List UInt8) (hb : By w vx bs) (h47 : n + bs.length ≤ 140737488355328) (hbase : base ≤ w.heap.size) :
    ∃ v' w', (Builtin.append_ #[22, 22] ty #[v, vx]).run Tryd.prog w = .ok v' w' ∧ w'.ownsRow base 5 1 v' (n + bs.length) (xs ++ byV bs) ∧ w.grownBy w' v.ownBlock := by
  obtain ⟨i0, hi0, hz0, hz1, hz2⟩ := info_parts info_u8
  obtain ⟨q, c, rfl, h1, h2, h3, h4⟩ := hb
  cases q with
  | none =>
    have hc : c = 0 := h3 rfl
    subst hc
    obtain rfl : bs = [] := List.eq_nil_of_length_eq_zero (by omega)
    exact ⟨v, w, run_append_owned_none (P := Tryd.prog) (w := w) base 22 ty 5 i0 1 Tryd.underlying22 hi0 v n xs hown, by simpa [byV, Lib.numsL] using hown, ⟨rfl, rfl, rfl, Nat.le_refl _, fun _ _ _ => rfl⟩⟩
  | some ad =>
    have hlen : (byV bs).length = bs.length * 1 := by simp [byV, Lib.numsL]
    obtain ⟨v', w', hr, h5, h6, _, _⟩ := run_append_own_at (P := Tryd.prog) w base 22 ty 5 i0 (.int .u8 0) 1 1 Tryd.underlying22 hi0 hz0 hz1 hz2 rfl (by decide) v n xs hown ad bs.length c (byV bs) hlen (fun j u hj => by
      rcases Nat.lt_or_ge j bs.length with h' | h'
      · obtain ⟨b, o, he, hcc⟩ := h4.at (by omega)
        cases he
        have hj' : j < (Lib.numsL bs).length := by rw [Lib.numsL_length]; omega
        unfold byV at hj
        rw [Go.WideShapes.add_plain, hcc j h']
        rw [List.getElem?_map, List.getElem?_eq_getElem hj'] at hj
        simp only [Option.map_some, Option.some.injEq] at hj
        rw [← hj, List.getD, List.getElem?_eq_getElem hj']
        rfl
      · rw [List.getElem?_eq_none (by omega)] at hj
        cases hj) (by simp [byV, Lib.numsL, Value.oneCell']) (by unfold maxLen; omega) (by omega) hbase
    exact ⟨v', w', hr, h5, h6⟩
theorem wp_append_by {o : Oper} {a : Act} {w : World} {K : Act → World → Prop} {Q : Exit → Act → World → Prop} (s x : Operand)
    (ho : o.op = .call { callee := .builtin .append, args := #[s, x], argTypes := #[22, 22] })
    (base : Nat) (v : Value) (n : Nat) (xs : List Value) (hs : a.eval s = v) (hown : w.ownsRow base 5 1 v n xs) (vx : Value) (bs : List UInt8) (hx : a.eval x = vx) (hb : By w vx bs) (h47 : n + bs.length ≤ 140737488355328) (hbase : base ≤ w.heap.size)
    (h : ∀ v' w', w'.ownsRow base 5 1 v' (n + bs.length) (xs ++ byV bs) → w.grownBy w' v.ownBlock → K (a.put o.dst v') w') : o.wp Tryd.prog a w K Q := by
  obtain ⟨v', w', hr, h1, h2⟩ := run_append_by o.type base v n xs w hown vx bs hb h47 hbase
  exact Lib.wp_append_run (P := Tryd.prog) w s x 22 22 ho v vx hs hx v' w' hr (h v' w' h1 h2)
theorem wpList_append_by {ops : Array Oper} {rest : List Oper} {o : Oper} {a : Act} {w : World} {Q : Exit → Act → World → Prop} (hgd : o.guard = none) (s x : Operand)
    (ho : o.op = .call { callee := .builtin .append, args := #[s, x], argTypes := #[22, 22] })
    (base : Nat) (v : Value) (n : Nat) (xs : List Value) (hs : a.eval s = v) (hown : w.ownsRow base 5 1 v n xs) (vx : Value) (bs : List UInt8) (hx : a.eval x = vx) (hb : By w vx bs) (h47 : n + bs.length ≤ 140737488355328) (hbase : base ≤ w.heap.size)
    (h : ∀ v' w', w'.ownsRow base 5 1 v' (n + bs.length) (xs ++ byV bs) → w.grownBy w' v.ownBlock → wpList Tryd.prog ops Q rest (a.put o.dst v') w') : wpList Tryd.prog ops Q (o :: rest) a w := by
  obtain ⟨v', w', hr, h1, h2⟩ := run_append_by o.type base v n xs w hown vx bs hb h47 hbase
  exact Lib.wpList_append_run (P := Tryd.prog) w hgd s x 22 22 ho v vx hs hx v' w' hr (h v' w' h1 h2)

/-- A new row of literal bytes. -/
theorem by_lit (w : World) (cs : Array Value) (l : List UInt8) (fr : Nat × Nat) (n : Nat) (h : cs.toList = byV l) (hn : l.length = n) (hm : n ≤ maxLen) : By (w.alloc (.cells cs 5 fr)) (.slice (some ⟨w.heap.size, 0, none⟩) n n) l :=
  By.of hn (Nat.le_refl _) hm (fun h => by cases h) (by rw [← hn]; exact bytes_lit cs l fr h)
/-- What a row leaves that has grown, seen from below it. -/
theorem grown_below {base n : Nat} {v : Value} {xs : List Value} {w w' : World} (hown : w.ownsRow base 5 1 v n xs) (hg : w.grownBy w' v.ownBlock) (hb : base ≤ w.heap.size) : Below base w w' :=
  (Below.refl _ _).grown hg hb (fun b h => (hown.lt b h).1)
/-- The cells of a box of several. -/
theorem box_cell (w : World) (cs : Array Value) (t : TypeId) (i : Nat) (x : Value) (h : cs[i]? = some x) : (w.alloc (.cells cs t)).cell? ⟨w.heap.size, i, none⟩ = some x := by
  have hn : (w.alloc (.cells cs t)).heap[w.heap.size]? = some (.cells cs t) := World.alloc_heap_new w _
  simp only [World.cell?, hn]
  exact h
theorem cell_on {w w' : World} {a : Addr} {x : Value} (h : w.cell? a = some x) (hk : Below w.heap.size w w') : w'.cell? a = some x := (World.cell?_of_block (hk.block _ (World.block_lt_of_cell? w _ h))).trans h
theorem cell_below {B : Nat} {w w' : World} {a : Addr} {x : Value} (h : w.cell? a = some x) (hk : Below B w w') (hB : a.block < B) : w'.cell? a = some x := (World.cell?_of_block (hk.block _ hB)).trans h

end Go.Proofs.YtajojgimbagjoaaDoor.Url

namespace Go.Proofs.YtajojgimbagjoaaDoor.Url
open Go.RowKit Go.Shelf
attribute [local go_sem] Oper.semAt_some

/-- The value v is the URL u. -/
def UrlIn (w : World) (v : Value) (u : U) : Prop := ∃ q0 n0 c0 q1 n1 c1 q3 n3 c3 q4 n4 c4 q5 n5 c5,
  v = .agg #[.slice q0 n0 c0, .slice q1 n1 c1, .int .i64 u.port, .slice q3 n3 c3, .slice q4 n4 c4, .slice q5 n5 c5, .bool u.hq, .bool u.hf] ∧
  By w (.slice q0 n0 c0) u.scheme ∧ By w (.slice q1 n1 c1) u.host ∧ By w (.slice q3 n3 c3) u.path ∧ By w (.slice q4 n4 c4) u.query ∧ By w (.slice q5 n5 c5) u.frag
theorem UrlIn.on {w w' : World} {v : Value} {u : U} (h : UrlIn w v u) (hk : Below w.heap.size w w') : UrlIn w' v u := by
  obtain ⟨q0, n0, c0, q1, n1, c1, q3, n3, c3, q4, n4, c4, q5, n5, c5, hv, h0, h1, h3, h4, h5⟩ := h
  exact ⟨q0, n0, c0, q1, n1, c1, q3, n3, c3, q4, n4, c4, q5, n5, c5, hv, h0.on hk, h1.on hk, h3.on hk, h4.on hk, h5.on hk⟩
/-- Scheme, host and port. -/
def serverT (u : U) : List UInt8 := u.scheme ++ sepS ++ u.host ++ portT u
theorem text_server (u : U) : textU u = serverT u ++ u.path ++ queryT u ++ fragT u := rfl
theorem low_scheme (u : U) (h : Ok u) : Ref.lowL u.scheme = u.scheme := by
  rcases h.scheme with hs | hs <;> (rw [hs]; decide)
theorem dig_dec10 (n : Nat) : digL n = Lib.decDigits n := by
  induction n using Nat.strongRecOn with
  | ind n ih =>
    by_cases h : n < 10
    · rw [dig_small n h, Lib.decDigits, dif_pos h]
    · rw [dig_big n h, Lib.decDigits, dif_neg h, ih (n / 10) (by omega)]
theorem itoa_dig (n : Nat) : Lib.byteCells (Lib.itoa (n : Int)) = byV (digL n) ∧ (Lib.itoa (n : Int)).length = (digL n).length := by
  rw [Lib.itoa_nonneg, dig_dec10]
  refine ⟨?_, rfl⟩
  unfold Lib.byteCells byV Lib.numsL
  rw [List.map_map]; rfl
theorem AppendInt_any (B n p : Nat) (v : Value) (xs : List Value) (w : World) (hown : w.ownsRow B 5 1 v n xs) (hp : p ≤ 65535) (hB : B ≤ w.heap.size) (hn : n ≤ 1048577) (ht : Lib.TabBelow Tryd.prog B w "internal/strconv.uint64pow10" .u64 Lib.pow10Tab) :
    Calls Tryd.prog 51 #[v, .int .i64 (p : Int), .int .i64 10] w fun e w' => ∃ v', e = .returned v' ∧ w'.ownsRow B 5 1 v' (n + (digL p).length) (xs ++ byV (digL p)) ∧ Below B w w' := by
  refine (Tryd.strconv_AppendInt_10 B n p (by omega) (by omega) v xs w hown hB (by omega) ht).mono ?_
  rintro e w' ⟨v', he, hr, hb, _⟩
  rw [(itoa_dig p).1, (itoa_dig p).2] at hr
  exact ⟨v', he, hr, hb⟩

set_option maxRecDepth 100000 in
set_option maxHeartbeats 8000000 in
theorem server_any (u : U) (v : Value) (w : World) (h : UrlIn w v u) (hok : Ok u) (hG : Gl w) (hlen : (textU u).length ≤ 1048576) :
    Calls Tryd.prog 31 #[v] w fun e w' => ∃ v', e = .returned v' ∧ w'.ownsRow w.heap.size 5 1 v' (serverT u).length (byV (serverT u)) ∧ Below w.heap.size w w' := by
  have kc := fun (w : World) (C : Array Value) (n c : Nat) => Lib.run_convert_bytes_const (P := Tryd.prog) w 22 5 C n c Tryd.underlying22 Tryd.underlying5
  obtain ⟨q0, n0, c0, q1, n1, c1, q3, n3, c3, q4, n4, c4, q5, n5, c5, rfl, h0, h1, h3, h4, h5⟩ := h
  have hp2 := hok.port2
  have HLS := Lib.hid (low_scheme u hok)
  have hsl : (u.scheme ++ sepS ++ u.host).length ≤ 1048576 := by
    have : (textU u).length = (u.scheme ++ sepS ++ u.host).length + (portT u ++ u.path ++ queryT u ++ fragT u).length := by rw [← List.length_append]; rw [text_server]; unfold serverT; simp only [List.append_assoc]
    omega
  have HPT := Lib.hid (show portT u = if u.port = ownP u.scheme then [] else 58 :: digL u.port from rfl)
  have HST := Lib.hid (show serverT u = (u.scheme ++ sepS ++ u.host) ++ portT u from rfl)
  clear hok hlen
  -- the box, "://", the three parts
  obtain ⟨W1, hW1⟩ : ∃ W1, (w.alloc (.cells #[.slice q0 n0 c0, .slice q1 n1 c1, .int .i64 u.port, .slice q3 n3 c3, .slice q4 n4 c4, .slice q5 n5 c5, .bool u.hq, .bool u.hf] 33)).alloc (.cells #[.int .u8 58, .int .u8 47, .int .u8 47] 5 (3, 4)) = W1 := ⟨_, rfl⟩
  have hs1 : W1.heap.size = w.heap.size + 2 := by rw [← hW1]; simp
  have hB0 := (Below.refl _ w).alloc (Nat.le_refl _) (.cells #[.slice q0 n0 c0, .slice q1 n1 c1, .int .i64 u.port, .slice q3 n3 c3, .slice q4 n4 c4, .slice q5 n5 c5, .bool u.hq, .bool u.hf] 33)
  have hB1 : Below w.heap.size w W1 := by rw [← hW1]; exact hB0.alloc hB0.size _
  have hbox : ∀ i x, (#[.slice q0 n0 c0, .slice q1 n1 c1, .int .i64 u.port, .slice q3 n3 c3, .slice q4 n4 c4, .slice q5 n5 c5, .bool u.hq, .bool u.hf] : Array Value)[i]? = some x → W1.cell? ⟨w.heap.size, i, none⟩ = some x := fun i x h => by
    rw [← hW1]; exact cell_on (box_cell w _ 33 i x h) ((Below.refl _ _).alloc (Nat.le_refl _) _)
  have hsep : By W1 (.slice (some ⟨w.heap.size + 1, 0, none⟩) 3 3) sepS := by
    have := by_lit (w.alloc (.cells #[.slice q0 n0 c0, .slice q1 n1 c1, .int .i64 u.port, .slice q3 n3 c3, .slice q4 n4 c4, .slice q5 n5 c5, .bool u.hq, .bool u.hf] 33)) #[.int .u8 58, .int .u8 47, .int .u8 47] sepS (3, 4) 3 rfl rfl (by decide)
    rw [World.size_alloc] at this
    rw [← hW1]; exact this
  have kc1 := kc (w.alloc (.cells #[.slice q0 n0 c0, .slice q1 n1 c1, .int .i64 u.port, .slice q3 n3 c3, .slice q4 n4 c4, .slice q5 n5 c5, .bool u.hq, .bool u.hf] 33)) #[.int .u8 58, .int .u8 47, .int .u8 47] 3 3
  rw [World.size_alloc] at kc1
  have g0 := h0.on hB1
  have g1 := h1.on hB1
  obtain ⟨W2, hW2⟩ : ∃ W2, W1.alloc (.cells #[.slice q0 n0 c0, .slice (some ⟨w.heap.size + 1, 0, none⟩) 3 3, .slice q1 n1 c1] 22) = W2 := ⟨_, rfl⟩
  have hB12 : Below W1.heap.size W1 W2 := by rw [← hW2]; exact (Below.refl _ _).alloc (Nat.le_refl _) _
  have hB2 := hB1.trans (hB12.mono hB1.size)
  have hs2 : W2.heap.size = w.heap.size + 3 := by rw [← hW2, World.size_alloc, hs1]
  have hcl : ∀ i x, (#[.slice q0 n0 c0, .slice (some ⟨w.heap.size + 1, 0, none⟩) 3 3, .slice q1 n1 c1] : Array Value)[i]? = some x → W2.cell? ⟨w.heap.size + 1 + 1, i, none⟩ = some x := fun i x h => by
    have := box_cell W1 _ 22 i x h
    rw [hs1] at this
    rw [← hW2]; exact this
  have con := Concat_any (w.heap.size + 1 + 1) 3 3 [u.scheme, sepS, u.host] W2 rfl (by omega) (fun i hi => by
    match i, hi with
    | 0, _ => exact ⟨_, _, _, hcl 0 _ rfl, g0.on hB12⟩
    | 1, _ => exact ⟨_, _, _, hcl 1 _ rfl, hsep.on hB12⟩
    | 2, _ => exact ⟨_, _, _, hcl 2 _ rfl, g1.on hB12⟩) (by simp only [List.flatten_cons, List.flatten_nil, List.append_nil, ← List.append_assoc]; omega) (by simp [sepS]; omega)
  simp only [List.flatten_cons, List.flatten_nil, List.append_nil, ← List.append_assoc] at con
  have HW1 := Lib.hid hW1
  have HW2 := Lib.hid hW2
  clear hW1 hW2 hB0 hcl hsep h0 h1 h3 h4 h5 g1
  go_enter Tryd.func31, Tryd.ntmps31
  go_wp2_with fail
  rw [HW1.out, HW2.out]
  refine con.mono ?_
  rintro e W3 ⟨v3, rfl, hrow, hb3⟩
  have hB3 := hB2.trans (hb3.mono hB2.size)
  have hB13 := hB12.trans (hb3.mono hB12.size)
  have hrow' := row_base hrow (show w.heap.size + 1 ≤ W2.heap.size by omega)
  have hb := fun i x h => cell_on (hbox i x h) hB13
  have g0' := g0.on hB13
  have conO := fun X (hX : Below W3.heap.size W3 X) => Own_any q0 n0 c0 u.scheme X g0'.at.1 (by have := hsl; rw [List.length_append, List.length_append, g0'.at.1] at this; omega) (g0'.on hX).at.2.2.2.2
  rw [HLS.out] at conO
  clear con kc1 hrow hbox g0 hb3 hB12 hB13 hB2 hB1 HW1 HW2
  obtain ⟨n, hn⟩ : ∃ n, (u.scheme ++ sepS ++ u.host).length = n := ⟨_, rfl⟩
  rw [hn] at hrow' hsl
  obtain ⟨qr, cr, rfl, _, _, _, _, _⟩ := row_open hrow'
  have HLN := Lib.hid hn
  have c0' := hb 0 _ rfl
  have c2' := hb 2 _ rfl
  clear hn hb hs1 hs2
  generalize ownP u.scheme = own at *
  go_wp2_with fail
  refine pregion_any (fun X => X.cell? ⟨w.heap.size, 0, none⟩ = some (.slice q0 n0 c0) ∧ X.cell? ⟨w.heap.size, 2, none⟩ = some (.int .i64 u.port)) (by kernel_rfl) ?_
  have hS0 : W3.drew.cell? ⟨w.heap.size, 0, none⟩ = some (.slice q0 n0 c0) ∧ W3.drew.cell? ⟨w.heap.size, 2, none⟩ = some (.int .i64 u.port) := ⟨c0', c2'⟩
  have hBd : Below W3.heap.size W3 W3.drew := (Below.refl _ _).drew
  have conO' := conO _ hBd
  have hrd : W3.drew.ownsRow (w.heap.size + 1) 5 1 (.slice qr n cr) n (byV (u.scheme ++ sepS ++ u.host)) := hrow'
  have hB3d : Below w.heap.size w W3.drew := hB3.drew
  clear c0' c2' conO hrow' hB3 hBd g0'
  generalize W3.drew = X at *
  refine wpAnyH_take (i := 0) (v := (.pointer (some ⟨w.heap.size, 2, none⟩))) rfl (by kernel_rfl) (by kernel_rfl) (by kernel_rfl) (fun _ _ _ h => h) (.inl ⟨by kernel_rfl, ?_⟩) hS0 ?_
  · rintro w ⟨h1, h2⟩; go_simp
  refine plist #[true, false, false, false, false, false] (by kernel_rfl) ?_
  refine wpAnyH_take (i := 1) (v := (.int .i64 u.port)) rfl (by kernel_rfl) (by kernel_rfl) (by kernel_rfl) (fun _ _ _ h => h) (.inl ⟨by kernel_rfl, ?_⟩) hS0 ?_
  · rintro w ⟨h1, h2⟩; go_simp
  refine plist #[true, true, false, false, false, false] (by kernel_rfl) ?_
  refine wpAnyH_take (i := 2) (v := (.pointer (some ⟨w.heap.size, 0, none⟩))) rfl (by kernel_rfl) (by kernel_rfl) (by kernel_rfl) (fun _ _ _ h => h) (.inl ⟨by kernel_rfl, ?_⟩) hS0 ?_
  · rintro w ⟨h1, h2⟩; go_simp
  refine plist #[true, true, true, false, false, false] (by kernel_rfl) ?_
  refine wpAnyH_take (i := 3) (v := (.slice q0 n0 c0)) rfl (by kernel_rfl) (by kernel_rfl) (by kernel_rfl) (fun _ _ _ h => h) (.inl ⟨by kernel_rfl, ?_⟩) hS0 ?_
  · rintro w ⟨h1, h2⟩; go_simp
  refine plist #[true, true, true, true, false, false] (by kernel_rfl) ?_
  refine pone 4 (by kernel_rfl) rfl fun K hK => ?_
  go_simp
  refine conO'.mono ?_
  rintro e X4 ⟨rfl, hb4⟩
  have hS4 := And.intro (cell_on hS0.1 hb4) (cell_on hS0.2 hb4)
  have hB4 := hB3d.trans (hb4.mono hB3d.size)
  have hr4 := (Keep.of_below hb4).row hrd (fun k hk => (hrd.lt k hk).2)
  refine hK _ _ hS4 ?_
  clear hK K conO' hS0 hB3d hrd
  refine plist #[true, true, true, true, true, false] (by kernel_rfl) ?_
  by_cases hpo : u.port = own
  · have e5 : ((u.port : Int) == (own : Int)) = true := by rw [beq_iff_eq]; omega
    have H := Lib.hid (show serverT u = u.scheme ++ sepS ++ u.host by rw [HST.out, HPT.out, if_pos hpo, List.append_nil])
    refine wpAnyH_take (i := 5) (v := (.bool true)) rfl (by kernel_rfl) (by kernel_rfl) (by kernel_rfl) (fun _ _ _ h => h) (.inl ⟨by kernel_rfl, ?_⟩) hS4 ?_
    · rintro w ⟨h1, h2⟩; go_simp
    refine pdone (by kernel_rfl) ?_ _
    go_wp2
    go_ret
    refine ⟨_, rfl, ?_, hB4⟩
    rw [H.out, HLN.out]; exact row_base hr4 (Nat.le_succ _)
  · have e5 : ((u.port : Int) == (own : Int)) = false := by rw [beq_eq_false_iff_ne]; omega
    have H := Lib.hid (show serverT u = (u.scheme ++ sepS ++ u.host ++ [58]) ++ digL u.port by rw [HST.out, HPT.out, if_neg hpo]; simp)
    refine wpAnyH_take (i := 5) (v := (.bool false)) rfl (by kernel_rfl) (by kernel_rfl) (by kernel_rfl) (fun _ _ _ h => h) (.inl ⟨by kernel_rfl, ?_⟩) hS4 ?_
    · rintro w ⟨h1, h2⟩; go_simp
    refine pdone (by kernel_rfl) ?_ _
    clear e5
    go_wp2_with fail
    refine pregion_any (fun X => X.cell? ⟨w.heap.size, 2, none⟩ = some (.int .i64 u.port)) (by kernel_rfl) ?_
    have hS5 : X4.drew.cell? ⟨w.heap.size, 2, none⟩ = some (.int .i64 u.port) := hS4.2
    have hr5 : X4.drew.ownsRow (w.heap.size + 1) 5 1 (.slice qr n cr) n (byV (u.scheme ++ sepS ++ u.host)) := hr4
    have hB5 : Below w.heap.size w X4.drew := hB4.drew
    have hgt : w.heap.size + 1 ≤ X4.drew.heap.size := World.block_lt_of_cell? _ _ hS5
    clear hS4 hr4 hB4
    generalize X4.drew = Y at *
    refine wpAnyH_take (i := 0) (v := (.slice qr n cr)) rfl (by kernel_rfl) (by kernel_rfl) (by kernel_rfl) (fun _ _ _ h => h) (.inl ⟨by kernel_rfl, ?_⟩) hS5 ?_
    · rintro w h1; go_simp
    refine plist #[true, false, false, false, false, false, false] (by kernel_rfl) ?_
    refine wpAnyH_take (i := 3) (v := (.pointer (some ⟨w.heap.size, 2, none⟩))) rfl (by kernel_rfl) (by kernel_rfl) (by kernel_rfl) (fun _ _ _ h => h) (.inl ⟨by kernel_rfl, ?_⟩) hS5 ?_
    · rintro w h1; go_simp
    refine plist #[true, false, false, true, false, false, false] (by kernel_rfl) ?_
    refine wpAnyH_take (i := 4) (v := (.int .i64 u.port)) rfl (by kernel_rfl) (by kernel_rfl) (by kernel_rfl) (fun _ _ _ h => h) (.inl ⟨by kernel_rfl, ?_⟩) hS5 ?_
    · rintro w h1; go_simp
    refine plist #[true, false, false, true, true, false, false] (by kernel_rfl) ?_
    refine pone 1 (by kernel_rfl) rfl fun K hK => ?_
    go_simp
    have hbl := (Below.refl Y.heap.size Y).alloc (Nat.le_refl _) (.cells #[.int .u8 58] 5)
    have hS6 := cell_on hS5 hbl
    refine hK _ _ hS6 ?_
    clear hK K
    refine plist #[true, true, false, true, true, false, false] (by kernel_rfl) ?_
    refine pone 2 (by kernel_rfl) rfl fun K hK => ?_
    rw [if_pos (by rfl)]
    have hsY := hB5.size
    refine wp_append_by (Operand.tmp 19) (Operand.tmp 20) rfl (w.heap.size + 1) (.slice qr n cr) n _ rfl (hr5.alloc _) _ [58] rfl (by_lit Y #[.int .u8 58] [58] (0, 0) 1 rfl rfl (by decide)) (by simp; omega) (by simp; omega) ?_
    intro v7 Z hr7 hg7
    have hb7 : Below (w.heap.size + 1) Y Z := (hbl.mono hgt).trans (grown_below (hr5.alloc _) hg7 (by simp; omega))
    have hB7 := hB5.trans (hb7.mono (Nat.le_succ _))
    have hS7 : Z.cell? ⟨w.heap.size, 2, none⟩ = some (.int .i64 u.port) := cell_below hS5 hb7 (Nat.lt_succ_self _)
    refine hK _ _ hS7 ?_
    clear hK K
    refine plist #[true, true, true, true, true, false, false] (by kernel_rfl) ?_
    refine pone 5 (by kernel_rfl) rfl fun K hK => ?_
    go_simp
    refine (AppendInt_any (w.heap.size + 1) (n + 1) u.port v7 _ Z hr7 hp2 (Nat.le_trans hgt hb7.size) (by omega) (Gl.tab hG hB7 (Nat.le_succ _))).mono ?_
    rintro e V ⟨v8, rfl, hr8, hb8⟩
    have hS8 := cell_below hS7 hb8 (Nat.lt_succ_self _)
    refine hK _ _ hS8 ?_
    clear hK K
    refine plist #[true, true, true, true, true, true, false] (by kernel_rfl) ?_
    refine pone 6 (by kernel_rfl) rfl fun K hK => ?_
    go_simp
    refine hK _ _ hS8 ?_
    clear hK K
    refine pdone (by kernel_rfl) ?_ _
    go_wp2
    go_ret
    refine ⟨_, rfl, ?_, hB7.trans (hb8.mono (Nat.le_succ _))⟩
    rw [H.out, List.length_append, List.length_append, HLN.out, byV_app, byV_app]
    exact row_base hr8 (Nat.le_succ _)

end Go.Proofs.YtajojgimbagjoaaDoor.Url

namespace Go.Proofs.YtajojgimbagjoaaDoor.Url
open Go.RowKit Go.Shelf
attribute [local go_sem] Oper.semAt_some

/-- The cells of block B. -/
def Box (B : Nat) (cs : Array Value) (X : World) : Prop := ∀ i x, cs[i]? = some x → X.cell? ⟨B, i, none⟩ = some x
theorem Box.on {B : Nat} {cs : Array Value} {X Y : World} (h : Box B cs X) (hk : Below X.heap.size X Y) : Box B cs Y := fun i x hx => cell_on (h i x hx) hk
theorem Box.below {B M : Nat} {cs : Array Value} {X Y : World} (h : Box B cs X) (hk : Below M X Y) (hB : B < M) : Box B cs Y := fun i x hx => cell_below (h i x hx) hk hB
theorem Box.new (w : World) (cs : Array Value) (t : TypeId) : Box w.heap.size cs (w.alloc (.cells cs t)) := fun i x h => box_cell w cs t i x h
theorem Box.drew {B : Nat} {cs : Array Value} {X : World} (h : Box B cs X) : Box B cs X.drew := h

set_option maxRecDepth 100000 in
set_option maxHeartbeats 8000000 in
theorem Text_any (u : U) (v : Value) (w : World) (h : UrlIn w v u) (hok : Ok u) (hG : Gl w) (hlen : (textU u).length ≤ 1048576) :
    Calls Tryd.prog 17 #[v] w fun e w' => ∃ v', e = .returned v' ∧ w'.ownsRow w.heap.size 5 1 v' (textU u).length (byV (textU u)) ∧ Below w.heap.size w w' := by
  obtain ⟨q0, n0, c0, q1, n1, c1, q3, n3, c3, q4, n4, c4, q5, n5, c5, rfl, h0, h1, h3, h4, h5⟩ := h
  have hT := text_server u
  have hql : (queryT u).length = if u.hq then u.query.length + 1 else 0 := by unfold queryT; split <;> simp
  have hfl : (fragT u).length = if u.hf then u.frag.length + 1 else 0 := by unfold fragT; split <;> simp
  have hlt : (serverT u).length + u.path.length + (queryT u).length + (fragT u).length ≤ 1048576 := by rw [hT] at hlen; simp only [List.length_append] at hlen; omega
  have HQ := Lib.hid (show queryT u = if u.hq then 63 :: u.query else [] from rfl)
  have HF := Lib.hid (show fragT u = if u.hf then 35 :: u.frag else [] from rfl)
  have HT := Lib.hid hT
  clear hT
  obtain ⟨W1, hW1⟩ : ∃ W1, w.alloc (.cells #[.slice q0 n0 c0, .slice q1 n1 c1, .int .i64 u.port, .slice q3 n3 c3, .slice q4 n4 c4, .slice q5 n5 c5, .bool u.hq, .bool u.hf] 33) = W1 := ⟨_, rfl⟩
  have hs1 : W1.heap.size = w.heap.size + 1 := by rw [← hW1]; simp
  have hB1 : Below w.heap.size w W1 := by rw [← hW1]; exact (Below.refl _ w).alloc (Nat.le_refl _) _
  have hbox : Box w.heap.size #[.slice q0 n0 c0, .slice q1 n1 c1, .int .i64 u.port, .slice q3 n3 c3, .slice q4 n4 c4, .slice q5 n5 c5, .bool u.hq, .bool u.hf] W1 := by rw [← hW1]; exact Box.new w _ _
  have hin : UrlIn W1 (.agg #[.slice q0 n0 c0, .slice q1 n1 c1, .int .i64 u.port, .slice q3 n3 c3, .slice q4 n4 c4, .slice q5 n5 c5, .bool u.hq, .bool u.hf]) u := UrlIn.on ⟨q0, n0, c0, q1, n1, c1, q3, n3, c3, q4, n4, c4, q5, n5, c5, rfl, h0, h1, h3, h4, h5⟩ hB1
  have con := fun X (hX : Below W1.heap.size W1 X) => server_any u _ X (hin.on hX) hok ((hG.on hB1).on hX) hlen
  have HW1 := Lib.hid hW1
  clear hW1 hin hok hG hlen
  generalize u.hq = bq at *
  generalize u.hf = bf at *
  go_enter Tryd.func17, Tryd.ntmps17
  go_wp2_with fail
  rw [HW1.out]
  refine pregion_any (Box w.heap.size #[.slice q0 n0 c0, .slice q1 n1 c1, .int .i64 u.port, .slice q3 n3 c3, .slice q4 n4 c4, .slice q5 n5 c5, .bool bq, .bool bf]) (by kernel_rfl) ?_
  have hS0 : Box w.heap.size #[.slice q0 n0 c0, .slice q1 n1 c1, .int .i64 u.port, .slice q3 n3 c3, .slice q4 n4 c4, .slice q5 n5 c5, .bool bq, .bool bf] W1.drew := hbox
  have con' := con _ ((Below.refl _ _).drew)
  have hBd : Below w.heap.size w W1.drew := hB1.drew
  have hsd : W1.drew.heap.size = w.heap.size + 1 := hs1
  clear con hbox HW1 hB1 hs1
  generalize W1.drew = X at *
  refine wpAnyH_take (i := 0) (v := (.agg #[.slice q0 n0 c0, .slice q1 n1 c1, .int .i64 u.port, .slice q3 n3 c3, .slice q4 n4 c4, .slice q5 n5 c5, .bool bq, .bool bf])) rfl (by kernel_rfl) (by kernel_rfl) (by kernel_rfl) (fun _ _ _ h => h) (.inl ⟨by kernel_rfl, ?_⟩) hS0 ?_
  · rintro w h; have e0 := h 0 _ rfl; have e1 := h 1 _ rfl; have e2 := h 2 _ rfl; have e3 := h 3 _ rfl; have e4 := h 4 _ rfl; have e5 := h 5 _ rfl; have e6 := h 6 _ rfl; have e7 := h 7 _ rfl; go_simp
  refine plist #[true, false, false, false, false, false] (by kernel_rfl) ?_
  refine wpAnyH_take (i := 2) (v := (.pointer (some ⟨w.heap.size, 3, none⟩))) rfl (by kernel_rfl) (by kernel_rfl) (by kernel_rfl) (fun _ _ _ h => h) (.inl ⟨by kernel_rfl, ?_⟩) hS0 ?_
  · rintro w h; go_simp
  refine plist #[true, false, true, false, false, false] (by kernel_rfl) ?_
  refine wpAnyH_take (i := 3) (v := (.slice q3 n3 c3)) rfl (by kernel_rfl) (by kernel_rfl) (by kernel_rfl) (fun _ _ _ h => h) (.inl ⟨by kernel_rfl, ?_⟩) hS0 ?_
  · rintro w h; have h' := h 3 _ rfl; go_simp
  refine plist #[true, false, true, true, false, false] (by kernel_rfl) ?_
  refine pone 1 (by kernel_rfl) rfl fun K hK => ?_
  go_simp
  refine con'.mono ?_
  rintro e X1 ⟨v1, rfl, hr1, hb1⟩
  rw [hsd] at hr1 hb1
  have hS1 := Box.below hS0 hb1 (Nat.lt_succ_self _)
  have hB1 := hBd.trans (hb1.mono (Nat.le_succ _))
  have hgt1 : w.heap.size + 1 ≤ X1.heap.size := by have := hb1.size; omega
  refine hK _ _ hS1 ?_
  clear hK K con' hS0 hBd
  refine plist #[true, true, true, true, false, false] (by kernel_rfl) ?_
  refine pone 4 (by kernel_rfl) rfl fun K hK => ?_
  rw [if_pos (by rfl)]
  refine wp_append_by (Operand.tmp 5) (Operand.tmp 7) rfl (w.heap.size + 1) v1 _ _ rfl hr1 _ u.path rfl (h3.on hB1) (by omega) hgt1 ?_
  intro v2 Y hr hg2
  have hb2 := grown_below hr1 hg2 hgt1
  have hS := Box.below hS1 hb2 (Nat.lt_succ_self _)
  have hB := hB1.trans (hb2.mono (Nat.le_succ _))
  have hgt : w.heap.size + 1 ≤ Y.heap.size := Nat.le_trans hgt1 hb2.size
  refine hK _ _ hS ?_
  clear hK K hb1 hr1 hS1 hB1 hgt1 hg2 hb2
  refine plist #[true, true, true, true, true, false] (by kernel_rfl) ?_
  refine pone 5 (by kernel_rfl) rfl fun K hK => ?_
  go_simp
  refine hK _ _ hS ?_
  clear hK K
  refine pdone (by kernel_rfl) ?_ _
  rw [← byV_app] at hr
  have HLA := Lib.hid (show (serverT u ++ u.path).length = (serverT u).length + u.path.length from List.length_append)
  obtain ⟨q2, c2, rfl, _, _, _, _, _⟩ := row_open hr
  have h6 := hS 6 _ rfl
  cases bq with
  | false =>
    have h7 := hS 7 _ rfl
    cases bf with
    | false =>
      go_wp2
      go_ret
      have HE : textU u = serverT u ++ u.path := by rw [HT.out, HQ.out, HF.out]; simp
      rw [HE]
      have hll : (serverT u ++ u.path).length = (serverT u).length + u.path.length := by simp only [List.length_append]
      rw [hll]
      exact ⟨_, rfl, row_base hr (Nat.le_succ _), hB⟩
    | true =>
      rw [if_pos rfl] at hfl
      go_wp2_with fail
      refine pregion_any (Box w.heap.size #[.slice q0 n0 c0, .slice q1 n1 c1, .int .i64 u.port, .slice q3 n3 c3, .slice q4 n4 c4, .slice q5 n5 c5, .bool false, .bool true]) (by kernel_rfl) ?_
      have hSe : Box w.heap.size #[.slice q0 n0 c0, .slice q1 n1 c1, .int .i64 u.port, .slice q3 n3 c3, .slice q4 n4 c4, .slice q5 n5 c5, .bool false, .bool true] Y.drew := hS
      have hre := (Keep.drew (fun _ => True) Y).row hr (fun _ _ => trivial)
      have hBe : Below w.heap.size w Y.drew := hB.drew
      have hgte : w.heap.size + 1 ≤ Y.drew.heap.size := hgt
      clear hS hr hB hgt
      generalize Y.drew = Ye at *
      refine wpAnyH_take (i := 0) (v := (.slice q2 ((serverT u).length + u.path.length) c2)) rfl (by kernel_rfl) (by kernel_rfl) (by kernel_rfl) (fun _ _ _ h => h) (.inl ⟨by kernel_rfl, ?_⟩) hSe ?_
      · rintro w h; go_simp
      refine plist #[true, false, false, false, false, false, false] (by kernel_rfl) ?_
      refine wpAnyH_take (i := 3) (v := (.pointer (some ⟨w.heap.size, 5, none⟩))) rfl (by kernel_rfl) (by kernel_rfl) (by kernel_rfl) (fun _ _ _ h => h) (.inl ⟨by kernel_rfl, ?_⟩) hSe ?_
      · rintro w h; go_simp
      refine plist #[true, false, false, true, false, false, false] (by kernel_rfl) ?_
      refine wpAnyH_take (i := 4) (v := (.slice q5 n5 c5)) rfl (by kernel_rfl) (by kernel_rfl) (by kernel_rfl) (fun _ _ _ h => h) (.inl ⟨by kernel_rfl, ?_⟩) hSe ?_
      · rintro w h; have h' := h 5 _ rfl; go_simp
      refine plist #[true, false, false, true, true, false, false] (by kernel_rfl) ?_
      refine pone 1 (by kernel_rfl) rfl fun K hK => ?_
      go_simp
      refine hK _ _ (Box.on hSe ((Below.refl _ _).alloc (Nat.le_refl _) _)) ?_
      clear hK K
      refine plist #[true, true, false, true, true, false, false] (by kernel_rfl) ?_
      refine pone 2 (by kernel_rfl) rfl fun K hK => ?_
      rw [if_pos (by rfl)]
      refine wp_append_by (Operand.tmp 19) (Operand.tmp 20) rfl (w.heap.size + 1) _ _ _ rfl (hre.alloc _) _ [35] rfl (by_lit Ye #[.int .u8 35] [35] (0, 0) 1 rfl rfl (by decide)) (by simp; omega) (by simp; omega) ?_
      intro va Za hra hga
      have hba : Below (w.heap.size + 1) Ye Za := (((Below.refl Ye.heap.size Ye).alloc (Nat.le_refl _) (.cells #[.int .u8 35] 5)).mono hgte).trans (grown_below (hre.alloc _) hga (by simp; omega))
      have hSa := Box.below hSe hba (Nat.lt_succ_self _)
      refine hK _ _ hSa ?_
      clear hK K
      refine plist #[true, true, true, true, true, false, false] (by kernel_rfl) ?_
      refine pone 5 (by kernel_rfl) rfl fun K hK => ?_
      rw [if_pos (by rfl)]
      refine wp_append_by (Operand.tmp 21) (Operand.tmp 23) rfl (w.heap.size + 1) va _ _ rfl hra _ u.frag rfl (h5.on (hBe.trans (hba.mono (Nat.le_succ _)))) (by simp; omega) (Nat.le_trans hgte hba.size) ?_
      intro vf Yf hrf hgb
      have hbb : Below (w.heap.size + 1) Ye Yf := hba.trans (grown_below hra hgb (Nat.le_trans hgte hba.size))
      have hSf := Box.below hSe hbb (Nat.lt_succ_self _)
      refine hK _ _ hSf ?_
      clear hK K
      refine plist #[true, true, true, true, true, true, false] (by kernel_rfl) ?_
      refine pone 6 (by kernel_rfl) rfl fun K hK => ?_
      go_simp
      refine hK _ _ hSf ?_
      clear hK K
      refine pdone (by kernel_rfl) ?_ _
      have hBf := hBe.trans (hbb.mono (Nat.le_succ _))
      have hgtf := Nat.le_trans hgte hbb.size
      rw [List.length_singleton, ← byV_app, ← byV_app] at hrf
      obtain ⟨qf, ccf, rfl, _, _, _, _, _⟩ := row_open hrf
      clear hra hga hba hgb hbb hSa hSe hre hBe hgte
      go_wp2
      go_ret
      have HE : textU u = (serverT u ++ u.path) ++ [35] ++ u.frag := by rw [HT.out, HQ.out, HF.out]; simp
      rw [HE]
      have hll : ((serverT u ++ u.path) ++ [35] ++ u.frag).length = (serverT u).length + u.path.length + 1 + u.frag.length := by simp only [List.length_append, List.length_cons, List.length_nil]
      rw [hll]
      exact ⟨_, rfl, row_base hrf (Nat.le_succ _), hBf⟩
  | true =>
    rw [if_pos rfl] at hql
    go_wp2_with fail
    refine pregion_any (Box w.heap.size #[.slice q0 n0 c0, .slice q1 n1 c1, .int .i64 u.port, .slice q3 n3 c3, .slice q4 n4 c4, .slice q5 n5 c5, .bool true, .bool bf]) (by kernel_rfl) ?_
    have hSb : Box w.heap.size #[.slice q0 n0 c0, .slice q1 n1 c1, .int .i64 u.port, .slice q3 n3 c3, .slice q4 n4 c4, .slice q5 n5 c5, .bool true, .bool bf] Y.drew := hS
    have hrb := (Keep.drew (fun _ => True) Y).row hr (fun _ _ => trivial)
    have hBb : Below w.heap.size w Y.drew := hB.drew
    have hgtb : w.heap.size + 1 ≤ Y.drew.heap.size := hgt
    clear hS hr hB hgt
    generalize Y.drew = Yb at *
    refine wpAnyH_take (i := 0) (v := (.slice q2 ((serverT u).length + u.path.length) c2)) rfl (by kernel_rfl) (by kernel_rfl) (by kernel_rfl) (fun _ _ _ h => h) (.inl ⟨by kernel_rfl, ?_⟩) hSb ?_
    · rintro w h; go_simp
    refine plist #[true, false, false, false, false, false, false] (by kernel_rfl) ?_
    refine wpAnyH_take (i := 3) (v := (.pointer (some ⟨w.heap.size, 4, none⟩))) rfl (by kernel_rfl) (by kernel_rfl) (by kernel_rfl) (fun _ _ _ h => h) (.inl ⟨by kernel_rfl, ?_⟩) hSb ?_
    · rintro w h; go_simp
    refine plist #[true, false, false, true, false, false, false] (by kernel_rfl) ?_
    refine wpAnyH_take (i := 4) (v := (.slice q4 n4 c4)) rfl (by kernel_rfl) (by kernel_rfl) (by kernel_rfl) (fun _ _ _ h => h) (.inl ⟨by kernel_rfl, ?_⟩) hSb ?_
    · rintro w h; have h' := h 4 _ rfl; go_simp
    refine plist #[true, false, false, true, true, false, false] (by kernel_rfl) ?_
    refine pone 1 (by kernel_rfl) rfl fun K hK => ?_
    go_simp
    refine hK _ _ (Box.on hSb ((Below.refl _ _).alloc (Nat.le_refl _) _)) ?_
    clear hK K
    refine plist #[true, true, false, true, true, false, false] (by kernel_rfl) ?_
    refine pone 2 (by kernel_rfl) rfl fun K hK => ?_
    rw [if_pos (by rfl)]
    refine wp_append_by (Operand.tmp 11) (Operand.tmp 12) rfl (w.heap.size + 1) _ _ _ rfl (hrb.alloc _) _ [63] rfl (by_lit Yb #[.int .u8 63] [63] (0, 0) 1 rfl rfl (by decide)) (by simp; omega) (by simp; omega) ?_
    intro va Za hra hga
    have hba : Below (w.heap.size + 1) Yb Za := (((Below.refl Yb.heap.size Yb).alloc (Nat.le_refl _) (.cells #[.int .u8 63] 5)).mono hgtb).trans (grown_below (hrb.alloc _) hga (by simp; omega))
    have hSa := Box.below hSb hba (Nat.lt_succ_self _)
    refine hK _ _ hSa ?_
    clear hK K
    refine plist #[true, true, true, true, true, false, false] (by kernel_rfl) ?_
    refine pone 5 (by kernel_rfl) rfl fun K hK => ?_
    rw [if_pos (by rfl)]
    refine wp_append_by (Operand.tmp 13) (Operand.tmp 15) rfl (w.heap.size + 1) va _ _ rfl hra _ u.query rfl (h4.on (hBb.trans (hba.mono (Nat.le_succ _)))) (by simp; omega) (Nat.le_trans hgtb hba.size) ?_
    intro vc Yc hrc hgb
    have hbb : Below (w.heap.size + 1) Yb Yc := hba.trans (grown_below hra hgb (Nat.le_trans hgtb hba.size))
    have hSc := Box.below hSb hbb (Nat.lt_succ_self _)
    refine hK _ _ hSc ?_
    clear hK K
    refine plist #[true, true, true, true, true, true, false] (by kernel_rfl) ?_
    refine pone 6 (by kernel_rfl) rfl fun K hK => ?_
    go_simp
    refine hK _ _ hSc ?_
    clear hK K
    refine pdone (by kernel_rfl) ?_ _
    have hBc := hBb.trans (hbb.mono (Nat.le_succ _))
    have hgtc := Nat.le_trans hgtb hbb.size
    rw [List.length_singleton, ← byV_app, ← byV_app] at hrc
    obtain ⟨qc, ccc, rfl, _, _, _, _, _⟩ := row_open hrc
    clear hra hga hba hgb hbb hSa hSb hrb hBb hgtb
    have h7 := hSc 7 _ rfl
    cases bf with
    | false =>
      go_wp2
      go_ret
      have HE : textU u = (serverT u ++ u.path) ++ [63] ++ u.query := by rw [HT.out, HQ.out, HF.out]; simp
      rw [HE]
      have hll : ((serverT u ++ u.path) ++ [63] ++ u.query).length = (serverT u).length + u.path.length + 1 + u.query.length := by simp only [List.length_append, List.length_cons, List.length_nil]
      rw [hll]
      exact ⟨_, rfl, row_base hrc (Nat.le_succ _), hBc⟩
    | true =>
      rw [if_pos rfl] at hfl
      go_wp2_with fail
      refine pregion_any (Box w.heap.size #[.slice q0 n0 c0, .slice q1 n1 c1, .int .i64 u.port, .slice q3 n3 c3, .slice q4 n4 c4, .slice q5 n5 c5, .bool true, .bool true]) (by kernel_rfl) ?_
      have hSe : Box w.heap.size #[.slice q0 n0 c0, .slice q1 n1 c1, .int .i64 u.port, .slice q3 n3 c3, .slice q4 n4 c4, .slice q5 n5 c5, .bool true, .bool true] Yc.drew := hSc
      have hre := (Keep.drew (fun _ => True) Yc).row hrc (fun _ _ => trivial)
      have hBe : Below w.heap.size w Yc.drew := hBc.drew
      have hgte : w.heap.size + 1 ≤ Yc.drew.heap.size := hgtc
      clear hSc hrc hBc hgtc
      generalize Yc.drew = Ye at *
      refine wpAnyH_take (i := 0) (v := (.slice qc ((serverT u).length + u.path.length + 1 + u.query.length) ccc)) rfl (by kernel_rfl) (by kernel_rfl) (by kernel_rfl) (fun _ _ _ h => h) (.inl ⟨by kernel_rfl, ?_⟩) hSe ?_
      · rintro w h; go_simp
      refine plist #[true, false, false, false, false, false, false] (by kernel_rfl) ?_
      refine wpAnyH_take (i := 3) (v := (.pointer (some ⟨w.heap.size, 5, none⟩))) rfl (by kernel_rfl) (by kernel_rfl) (by kernel_rfl) (fun _ _ _ h => h) (.inl ⟨by kernel_rfl, ?_⟩) hSe ?_
      · rintro w h; go_simp
      refine plist #[true, false, false, true, false, false, false] (by kernel_rfl) ?_
      refine wpAnyH_take (i := 4) (v := (.slice q5 n5 c5)) rfl (by kernel_rfl) (by kernel_rfl) (by kernel_rfl) (fun _ _ _ h => h) (.inl ⟨by kernel_rfl, ?_⟩) hSe ?_
      · rintro w h; have h' := h 5 _ rfl; go_simp
      refine plist #[true, false, false, true, true, false, false] (by kernel_rfl) ?_
      refine pone 1 (by kernel_rfl) rfl fun K hK => ?_
      go_simp
      refine hK _ _ (Box.on hSe ((Below.refl _ _).alloc (Nat.le_refl _) _)) ?_
      clear hK K
      refine plist #[true, true, false, true, true, false, false] (by kernel_rfl) ?_
      refine pone 2 (by kernel_rfl) rfl fun K hK => ?_
      rw [if_pos (by rfl)]
      refine wp_append_by (Operand.tmp 19) (Operand.tmp 20) rfl (w.heap.size + 1) _ _ _ rfl (hre.alloc _) _ [35] rfl (by_lit Ye #[.int .u8 35] [35] (0, 0) 1 rfl rfl (by decide)) (by simp; omega) (by simp; omega) ?_
      intro va Za hra hga
      have hba : Below (w.heap.size + 1) Ye Za := (((Below.refl Ye.heap.size Ye).alloc (Nat.le_refl _) (.cells #[.int .u8 35] 5)).mono hgte).trans (grown_below (hre.alloc _) hga (by simp; omega))
      have hSa := Box.below hSe hba (Nat.lt_succ_self _)
      refine hK _ _ hSa ?_
      clear hK K
      refine plist #[true, true, true, true, true, false, false] (by kernel_rfl) ?_
      refine pone 5 (by kernel_rfl) rfl fun K hK => ?_
      rw [if_pos (by rfl)]
      refine wp_append_by (Operand.tmp 21) (Operand.tmp 23) rfl (w.heap.size + 1) va _ _ rfl hra _ u.frag rfl (h5.on (hBe.trans (hba.mono (Nat.le_succ _)))) (by simp; omega) (Nat.le_trans hgte hba.size) ?_
      intro vf Yf hrf hgb
      have hbb : Below (w.heap.size + 1) Ye Yf := hba.trans (grown_below hra hgb (Nat.le_trans hgte hba.size))
      have hSf := Box.below hSe hbb (Nat.lt_succ_self _)
      refine hK _ _ hSf ?_
      clear hK K
      refine plist #[true, true, true, true, true, true, false] (by kernel_rfl) ?_
      refine pone 6 (by kernel_rfl) rfl fun K hK => ?_
      go_simp
      refine hK _ _ hSf ?_
      clear hK K
      refine pdone (by kernel_rfl) ?_ _
      have hBf := hBe.trans (hbb.mono (Nat.le_succ _))
      have hgtf := Nat.le_trans hgte hbb.size
      rw [List.length_singleton, ← byV_app, ← byV_app] at hrf
      obtain ⟨qf, ccf, rfl, _, _, _, _, _⟩ := row_open hrf
      clear hra hga hba hgb hbb hSa hSe hre hBe hgte
      go_wp2
      go_ret
      have HE : textU u = ((serverT u ++ u.path) ++ [63] ++ u.query) ++ [35] ++ u.frag := by rw [HT.out, HQ.out, HF.out]; simp
      rw [HE]
      have hll : (((serverT u ++ u.path) ++ [63] ++ u.query) ++ [35] ++ u.frag).length = (serverT u).length + u.path.length + 1 + u.query.length + 1 + u.frag.length := by simp only [List.length_append, List.length_cons, List.length_nil]
      rw [hll]
      exact ⟨_, rfl, row_base hrf (Nat.le_succ _), hBf⟩

end Go.Proofs.YtajojgimbagjoaaDoor.Url

namespace Go.Proofs.YtajojgimbagjoaaDoor.Url
open Go.RowKit Go.Shelf
attribute [local go_sem] Oper.semAt_some

/-- A URL's zero value, cell by cell. -/
def zeroU : Array Value := #[.slice none 0 0, .slice none 0 0, .int .i64 0, .slice none 0 0, .slice none 0 0, .slice none 0 0, .bool false, .bool false]
theorem query_le (u : U) (h : Ok u) : u.query.length ≤ (queryT u).length := by
  unfold queryT
  cases e : u.hq with
  | false => rw [h.noq e]; simp
  | true => simp
/-- Block B holds a URL's cells. -/
def UB (B : Nat) (cs : Array Value) (X : World) : Prop := X.heap[B]? = some (.cells cs 33 (0, 0))
theorem UB.box {B : Nat} {cs : Array Value} {X : World} (h : UB B cs X) : Box B cs X := fun i x hx => by
  simp only [World.cell?, show X.heap[B]? = _ from h]; exact hx
theorem UB.frozen {B : Nat} {cs : Array Value} {X : World} (h : UB B cs X) (i : Nat) : X.frozen? ⟨B, i, none⟩ = false := by
  simp [World.frozen?, show X.heap[B]? = _ from h]
theorem UB.on {B : Nat} {cs : Array Value} {X Y : World} (h : UB B cs X) (hk : Below X.heap.size X Y) : UB B cs Y := (hk.block B (Array.getElem?_eq_some_iff.1 h).1).trans h
theorem UB.below {B M : Nat} {cs : Array Value} {X Y : World} (h : UB B cs X) (hk : Below M X Y) (hB : B < M) : UB B cs Y := (hk.block B hB).trans h
theorem UB.lt {B : Nat} {cs : Array Value} {X : World} (h : UB B cs X) : B < X.heap.size := (Array.getElem?_eq_some_iff.1 h).1
theorem UB.new (w : World) (cs : Array Value) : UB w.heap.size cs (w.alloc (.cells cs 33)) := World.alloc_heap_new w _
theorem UB.set {B : Nat} {cs : Array Value} {X : World} (h : UB B cs X) (i : Nat) (v : Value) : UB B (cs.setIfInBounds i v) (X.setCell ⟨B, i, none⟩ v) := by
  obtain ⟨hlt, hk⟩ := Array.getElem?_eq_some_iff.1 h
  show (X.heap.modify B _)[B]? = _
  rw [Array.getElem?_eq_getElem (by rw [Array.size_modify]; exact hlt), Array.getElem_modify_self, hk]
  rfl
/-- All eight cells set, one by one. -/
theorem UB.put {B : Nat} {X : World} {a0 a1 a2 a3 a4 a5 a6 a7 : Value} (h : UB B #[a0, a1, a2, a3, a4, a5, a6, a7] X) (v0 v1 v2 v3 v4 v5 v6 v7 : Value) :
    ∃ Y, (((((((X.setCell ⟨B, 0, none⟩ v0).setCell ⟨B, 1, none⟩ v1).setCell ⟨B, 2, none⟩ v2).setCell ⟨B, 3, none⟩ v3).setCell ⟨B, 4, none⟩ v4).setCell ⟨B, 5, none⟩ v5).setCell ⟨B, 6, none⟩ v6).setCell ⟨B, 7, none⟩ v7 = Y ∧
      UB B #[v0, v1, v2, v3, v4, v5, v6, v7] Y ∧ (∀ S : Nat → Prop, ¬ S B → Keep S X Y) ∧ ∀ M, M ≤ B → Below M X Y := by
  have h8 := (((((((h.set 0 v0).set 1 v1).set 2 v2).set 3 v3).set 4 v4).set 5 v5).set 6 v6).set 7 v7
  simp only [List.setIfInBounds_toArray, List.set_cons_zero, List.set_cons_succ] at h8
  refine ⟨_, rfl, h8, fun S hS => ?_, fun M hM => ?_⟩
  · exact (Keep.setCell _ _ _ hS).trans ((Keep.setCell _ _ _ hS).trans ((Keep.setCell _ _ _ hS).trans ((Keep.setCell _ _ _ hS).trans ((Keep.setCell _ _ _ hS).trans ((Keep.setCell _ _ _ hS).trans ((Keep.setCell _ _ _ hS).trans (Keep.setCell _ _ _ hS)))))))
  · exact (((((((((Below.refl M X).setCell (p := ⟨B, 0, none⟩) hM v0).setCell (p := ⟨B, 1, none⟩) hM v1).setCell (p := ⟨B, 2, none⟩) hM v2).setCell (p := ⟨B, 3, none⟩) hM v3).setCell (p := ⟨B, 4, none⟩) hM v4).setCell (p := ⟨B, 5, none⟩) hM v5).setCell (p := ⟨B, 6, none⟩) hM v6).setCell (p := ⟨B, 7, none⟩) hM v7)
theorem size_url : (Tryd.prog.info? 33).map (·.size) = some 8 := by kernel_rfl
/-- A URL that lies in the result's cell is handed over. -/
theorem ret_url {fn : Func} {p : Tmp} (h : fn.results = #[.cell p 33]) (tmps : Array Value) (w : World) (B : Nat) (cs : Array Value) (hp : tmps.getD p undef = .pointer (some ⟨B, 0, none⟩)) (hU : UB B cs w) (hs : cs.size = 8) :
    (results fn tmps).run Tryd.prog w = .ok (.agg cs) w :=
  results_cell_row h tmps w B _ cs (0, 0) _ hp hU Tryd.underlying33 rfl (by rw [size_url, hs])
theorem ret_url2 {fn : Func} {p u : Tmp} (h : fn.results = #[.cell p 33, .tmp u]) (tmps : Array Value) (w : World) (B : Nat) (cs : Array Value) (hp : tmps.getD p undef = .pointer (some ⟨B, 0, none⟩)) (hU : UB B cs w) (hs : cs.size = 8) :
    (results fn tmps).run Tryd.prog w = .ok (.tuple #[.agg cs, tmps.getD u undef]) w := by
  rw [results_cell_tmp h, hp]
  simp [asAddr, Result.andThen, run_loadVar_row w B 33 _ cs (0, 0) _ hU Tryd.underlying33 rfl (by rw [size_url, hs])]

end Go.Proofs.YtajojgimbagjoaaDoor.Url

namespace Go.Proofs.YtajojgimbagjoaaDoor.Url
open Go.RowKit Go.Shelf

/-- v is a row of the slices vs, each a row of one's own that reads as the word of ks at its place. -/
def RowsOf (W : World) (base : Nat) (v : Value) (vs : List Value) (ks : List (List UInt8)) : Prop :=
  W.ownsRow base 22 1 v ks.length vs ∧ ∀ (i : Nat) (x : Value) (k : List UInt8), vs[i]? = some x → ks[i]? = some k → W.ownsRow base 5 1 x k.length (byV k)
/-- The blocks of a row of rows. -/
def KB (v : Value) (vs : List Value) (b : Nat) : Prop := v.ownBlock = some b ∨ ∃ x ∈ vs, x.ownBlock = some b
theorem RowsOf.len {W : World} {base : Nat} {v : Value} {vs : List Value} {ks : List (List UInt8)} (h : RowsOf W base v vs ks) : vs.length = ks.length := by
  have := h.1.1; omega
theorem RowsOf.nil (W : World) (base : Nat) : RowsOf W base (.slice none 0 0) [] [] := ⟨World.ownsRow_nil _ _ _ _, fun i x k h => by simp at h⟩
theorem RowsOf.lt {W : World} {base : Nat} {v : Value} {vs : List Value} {ks : List (List UInt8)} (h : RowsOf W base v vs ks) : ∀ b, KB v vs b → base ≤ b ∧ b < W.heap.size := by
  rintro b (hb | ⟨x, hx, hb⟩)
  · exact h.1.lt b hb
  · obtain ⟨i, hi, rfl⟩ := List.mem_iff_getElem.1 hx
    have hk : i < ks.length := by rw [← h.len]; exact hi
    exact (h.2 i _ _ (List.getElem?_eq_getElem hi) (List.getElem?_eq_getElem hk)).lt b hb
theorem RowsOf.keep {S : Nat → Prop} {W W' : World} {base : Nat} {v : Value} {vs : List Value} {ks : List (List UInt8)} (h : RowsOf W base v vs ks) (hk : Keep S W W') (hS : ∀ b, KB v vs b → S b) : RowsOf W' base v vs ks :=
  ⟨hk.row h.1 fun b hb => hS b (.inl hb), fun i x k hi hj => hk.row (h.2 i x k hi hj) fun b hb => hS b (.inr ⟨x, List.mem_of_getElem? hi, hb⟩)⟩
/-- A box of another type is none of the blocks. -/
theorem RowsOf.not_box {W : World} {base B : Nat} {t : TypeId} {u v : Value} {vs : List Value} {ks : List (List UInt8)} (h : RowsOf W base v vs ks) (hB : Boxed W B t u) (h1 : t ≠ 22) (h2 : t ≠ 5) : ¬ KB v vs B := by
  rintro (hb | ⟨x, hx, hb⟩)
  · exact hB.not_row h1 h.1 hb.symm
  · obtain ⟨i, hi, rfl⟩ := List.mem_iff_getElem.1 hx
    have hk : i < ks.length := by rw [← h.len]; exact hi
    exact hB.not_row h2 (h.2 i _ _ (List.getElem?_eq_getElem hi) (List.getElem?_eq_getElem hk)) hb.symm
theorem byte_row_ne {W : World} {base base' g m n : Nat} {v x : Value} {xs ys : List Value} (h : W.ownsRow base 22 1 v n xs) (h' : W.ownsRow base' 5 1 x m ys) (hb : v.ownBlock = some g) : x.ownBlock ≠ some g := fun he => by
  rcases h.2 with ⟨rfl, _⟩ | ⟨g1, cap1, cur1, rfl, _, hg1, _⟩
  · simp [Value.ownBlock] at hb
  · rcases h'.2 with ⟨rfl, _⟩ | ⟨g2, cap2, cur2, rfl, _, hg2, _⟩
    · simp [Value.ownBlock] at he
    · obtain rfl : g1 = g := by simpa [Value.ownBlock] using hb
      obtain rfl : g2 = g1 := by simpa [Value.ownBlock] using he
      rw [hg1] at hg2
      injection hg2 with hg2
      injection hg2 with _ hg2
      exact absurd hg2 (by decide)
/-- One slice less. -/
theorem RowsOf.dropLast {W : World} {base n c : Nat} {q : Option Addr} {vs : List Value} {ks : List (List UInt8)} (h : RowsOf W base (.slice q n c) vs ks) : n = ks.length ∧ RowsOf W base (.slice q (n - 1) c) vs.dropLast ks.dropLast := by
  have hl := h.len
  have hn : n = ks.length := by
    rcases h.1.2 with ⟨he, hz⟩ | ⟨g, cap, cur, he, _⟩
    · cases he; omega
    · cases he; rfl
  refine ⟨hn, ?_, fun i x k hi hj => ?_⟩
  · refine ⟨by rw [List.length_dropLast, List.length_dropLast]; omega, ?_⟩
    rcases h.1.2 with ⟨he, hz⟩ | ⟨g, cap, cur, he, hb, hg, h1, h2, h3, h4⟩
    · cases he
      exact .inl ⟨by simp, by rw [List.length_dropLast]; omega⟩
    · cases he
      refine .inr ⟨g, c, cur, by rw [List.length_dropLast], hb, hg, by rw [List.length_dropLast]; omega, h2, h3, ?_⟩
      rw [List.length_dropLast, ← h4, List.dropLast_eq_take]
      simp only [Nat.mul_one, List.take_take, List.length_take]
      have hm : ks.length ≤ cur.size := by omega
      have hcs : cur.toList.length = cur.size := rfl
      congr 1; omega
  · rw [List.getElem?_dropLast] at hi hj
    split at hi
    · split at hj
      · exact h.2 i x k hi hj
      · cases hj
    · cases hi

theorem join_lib (c : UInt8) : ∀ R : List (List UInt8), Lib.join R [c] = Ref.joinL c R
  | [] => rfl
  | [p] => Lib.join_one p [c]
  | p :: q :: r => by
    have ih := join_lib c (q :: r)
    rw [Lib.join_cons] at ih ⊢
    show p ++ Lib.joinTail [c] (q :: r) = p ++ c :: Ref.joinL c (q :: r)
    rw [← ih]
    simp [Lib.joinTail]
theorem lens_weight : ∀ R : List (List UInt8), Lib.lens R + R.length = weightL R
  | [] => rfl
  | p :: r => by
    have ih := lens_weight r
    simp only [Lib.lens, List.map_cons, List.sum_cons, List.length_cons, weightL] at ih ⊢
    omega
theorem By.holds {w : World} {v : Value} {l : List UInt8} (h : By w v l) : Lib.HoldsBytes w v l := by
  obtain ⟨q, c, rfl, h1, h2, h3, h4⟩ := h
  refine ⟨q, c, rfl, fun hq => List.eq_nil_of_length_eq_zero (by have := h3 hq; omega), fun a ha i x hx => ?_⟩
  subst ha
  have hi : i < l.length := (List.getElem?_eq_some_iff.1 hx).1
  obtain ⟨b, o, he, hc⟩ := h4.at (by omega)
  cases he
  rw [Go.WideShapes.add_plain, hc i hi, numsL_getD _ _ hi, List.getD, hx]; rfl
theorem By.fresh {B : Nat} {w : World} {v : Value} {l : List UInt8} (h : Lib.FreshBytes B w v l) : By w v l := by
  obtain ⟨g, cap, zs, rfl, _, h1, h2, h3, h4, h5, h6, _⟩ := h
  refine ⟨_, cap, rfl, h1, h2, (fun h => by cases h), fun _ => ⟨g, 0, rfl, fun i hi => ?_⟩⟩
  rw [Nat.zero_add, h6 i (by omega), numsL_getD _ _ hi, ← h5]
  have hz : i < zs.length := by omega
  have hr := h4 _ (List.getElem_mem hz)
  have hi' : i < (Lib.bytesOf (zs.take l.length)).length := by rw [Lib.bytesOf_length, List.length_take]; omega
  rw [List.getD, List.getElem?_eq_getElem hz, List.getD, List.getElem?_eq_getElem hi']
  simp only [Option.getD_some, Lib.bytesOf, List.getElem_map, List.getElem_take, UInt8.toNat_ofNat']
  congr 2; omega

set_option maxHeartbeats 1000000 in
theorem Join_any (base c n : Nat) (q : Option Addr) (vs : List Value) (ks : List (List UInt8)) (sv : Value) (w : World) (h : RowsOf w base (.slice q n c) vs ks) (hs : By w sv [47]) (hw : weightL ks ≤ 1099511627776) :
    Calls Tryd.prog 44 #[.slice q n c, sv] w fun e w' => ∃ v, e = .returned v ∧ By w' v (Ref.joinL 47 ks) ∧ Below w.heap.size w w' := by
  have hlen := h.len
  have hwt := lens_weight ks
  have key : ks ≠ [] → ∃ g, q = some ⟨g, 0, none⟩ ∧ n = ks.length ∧ n ≤ c ∧ ∀ (i : Nat) x, vs[i]? = some x → w.cell? ⟨g, i, none⟩ = some x := by
    intro hne
    have hpos : 0 < ks.length := List.length_pos_iff.2 hne
    rcases h.1.2 with ⟨he, hz⟩ | ⟨g, cap, cur, he, hb, hg, h1, h2, h3, h4⟩
    · omega
    · cases he
      refine ⟨g, rfl, rfl, h1, fun i x hx => ?_⟩
      have hi : i < vs.length := (List.getElem?_eq_some_iff.1 hx).1
      have : (cur.toList.take (ks.length * 1))[i]? = some x := by rw [h4]; exact hx
      rw [List.getElem?_take, if_pos (by omega)] at this
      simp only [World.cell?, hg]
      simpa using this
  rcases Nat.lt_or_ge 1 ks.length with h2 | h2
  · obtain ⟨g, rfl, hn, hnc, hc⟩ := key (by intro e; rw [e] at h2; simp at h2)
    have hP : Lib.PartsAt w ⟨g, 0, none⟩ vs ks := ⟨hlen, fun i x hx => by rw [Go.WideShapes.add_plain, Nat.zero_add]; exact hc i x hx, fun i x k hx hk => (By.row (h.2 i x k hx hk)).holds⟩
    refine (Tryd.bytes_Join_many g 0 n c vs ks sv [47] w hn.symm (by omega) hP hnc hs.holds (by omega) (by simp; omega)).mono ?_
    rintro e w' ⟨v, he, hf, hb⟩
    rw [join_lib] at hf
    exact ⟨v, he, By.fresh hf, hb⟩
  · match ks, h2 with
    | [], _ =>
      have hn : n = 0 := by
        rcases h.1.2 with ⟨he, _⟩ | ⟨g, cap, cur, he, _⟩
        · cases he; rfl
        · cases he; rfl
      subst hn
      refine (Tryd.bytes_Join_none q c sv w).mono ?_
      rintro e w' ⟨rfl, rfl⟩
      exact ⟨_, rfl, By.of rfl (Nat.le_refl _) (Nat.zero_le _) (fun _ => rfl) (Lib.BytesIn.nil _ _ _), (Below.refl _ _).alloc (Nat.le_refl _) _⟩
    | [k], _ =>
      obtain ⟨g, rfl, hn, hnc, hc⟩ := key (by simp)
      obtain rfl : n = 1 := hn
      obtain ⟨x, rfl⟩ : ∃ x, vs = [x] := by
        match vs, hlen with
        | [x], _ => exact ⟨x, rfl⟩
      have hb := By.row (h.2 0 x k rfl rfl)
      have hcell := hc 0 x rfl
      obtain ⟨p0, c0, rfl, h5, h6, h7, h8⟩ := hb.holds |> fun _ => hb
      rcases Nat.eq_zero_or_pos k.length with hk | hk
      · have hk' : k = [] := List.eq_nil_of_length_eq_zero hk
        subst hk'
        refine (Tryd.bytes_Join_one_empty g 0 c p0 c0 sv w hcell).mono ?_
        rintro e w' ⟨rfl, rfl⟩
        exact ⟨_, rfl, by_nil _, Below.refl _ _⟩
      · obtain ⟨b, o, rfl, hcc⟩ := h8.at hk
        refine (Tryd.bytes_Join_one g 0 c ⟨b, o, none⟩ c0 k sv w hcell (fun i y hy => by
          have hi : i < k.length := (List.getElem?_eq_some_iff.1 hy).1
          rw [Go.WideShapes.add_plain, hcc i hi, numsL_getD _ _ hi, List.getD, hy]; rfl) hk (by simp [weightL] at hw; omega)).mono ?_
        rintro e w' ⟨v, he, hf, hb'⟩
        exact ⟨v, he, By.fresh hf, hb'⟩

/-- The pieces behind the first one. -/
def tailsX (pre : List (Nat × List UInt8)) : List (List UInt8) := (pre.map Prod.snd).tail
theorem tails_snoc (pre : List (Nat × List UInt8)) (x : Nat × List UInt8) (h : pre ≠ []) : tailsX (pre ++ [x]) = tailsX pre ++ [x.2] := by
  unfold tailsX
  rw [List.map_append, List.map_singleton, List.tail_append_of_ne_nil (by simpa using h)]
theorem tails_one (x : Nat × List UInt8) : tailsX ([] ++ [x]) = [] := rfl
theorem forms_snoc : ∀ (l : List (List UInt8)) (p : List UInt8) (cs : List (List UInt8)) (c : List UInt8), formsL l = some cs → formL 1 p = some c → formsL (l ++ [p]) = some (cs ++ [c])
  | [], p, cs, c, h, hp => by
    rw [formsL] at h; cases h
    rw [List.nil_append, formsL, hp]; rfl
  | a :: r, p, cs, c, h, hp => by
    rw [formsL] at h
    obtain ⟨d, hd, h⟩ := Option.bind_eq_some_iff.1 h
    obtain ⟨ds, hds, rfl⟩ := Option.map_eq_some_iff.1 h
    rw [List.cons_append, formsL, hd, Option.bind_some, forms_snoc r p ds c hds hp]; rfl
theorem forms_bad : ∀ (l r : List (List UInt8)) (p : List UInt8), formL 1 p = none → formsL (l ++ p :: r) = none
  | [], r, p, hp => by rw [List.nil_append, formsL, hp]; rfl
  | a :: t, r, p, hp => by
    rw [List.cons_append, formsL, forms_bad t r p hp]
    cases formL 1 a <;> rfl
theorem stack_snoc (cs : List (List UInt8)) (c : List UInt8) : stackL [] (cs ++ [c]) = if c = [46] then stackL [] cs else if c = [46, 46] then (stackL [] cs).dropLast else stackL [] cs ++ [c] := by
  rw [stack_app, stackL, stackL]
theorem last_snoc (cs : List (List UInt8)) (c : List UInt8) : (cs ++ [c]).getLastD [] = c := by simp
theorem path_split (l : List UInt8) (h : l = [] ∨ ∃ r, l = 47 :: r) : pathL l = (formsL (Ref.splitL 47 l).tail).map fun cs => 47 :: Ref.joinL 47 (dotsL cs) := by
  rcases h with rfl | ⟨r, rfl⟩
  · rfl
  · rw [Ref.split_is]; rfl
theorem tails_split (l : List UInt8) : tailsX (splitX 47 l) = (Ref.splitL 47 l).tail := by
  unfold tailsX; rw [Host.splitX_snd]

end Go.Proofs.YtajojgimbagjoaaDoor.Url
