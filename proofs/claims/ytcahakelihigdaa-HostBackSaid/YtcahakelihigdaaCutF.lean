/- cut.Lines: its iterator tells the lines. Conditions: a text is of at most the model's greatest length. -/
import Derived.Test.YtcahakelihigdaaCutE
import Derived.Test.YtcahakelihigdaaOrd
namespace Go.Proofs.Ytcahakelihigdaa
open Go.RowKit Go.Shelf
attribute [local go_sem] Oper.semAt_some

/-- A piece that is handed over with its memory. -/
def RowArg (x : List UInt8) (args : Array Value) (G : Nat → Prop) (W : World) : Prop :=
  ∃ v, args = #[v] ∧ W.ownsRow 0 5 1 v x.length ((Lib.numsL x).map (Value.int .u8)) ∧ G = fun b => v.ownBlock = some b

theorem row_base {W : World} {base base' : Nat} {e : TypeId} {size : Nat} {v : Value} {n : Nat} {xs : List Value} (h : W.ownsRow base e size v n xs) (hb : base' ≤ base) : W.ownsRow base' e size v n xs := by
  refine ⟨h.1, ?_⟩
  rcases h.2 with hn | ⟨g, cap, cur, rfl, hbg, rest⟩
  · exact .inl hn
  · exact .inr ⟨g, cap, cur, rfl, by omega, rest⟩
/-- An owned row of bytes, opened. -/
theorem row_open {W : World} {base n : Nat} {v : Value} {l : List UInt8} (h : W.ownsRow base 5 1 v n ((Lib.numsL l).map (Value.int .u8))) :
    ∃ q c, v = .slice q n c ∧ l.length = n ∧ n ≤ c ∧ c ≤ maxLen ∧ Lib.BytesIn W q n (Lib.numsL l) ∧ (∀ a, q = some a → a.block < W.heap.size ∧ base ≤ a.block ∧ v.ownBlock = some a.block) := by
  have hl : l.length = n := by have := h.1; simpa [Lib.numsL] using this
  rcases h.2 with ⟨rfl, rfl⟩ | ⟨g, cap, cur, rfl, hb, hg, h1, h2, h3, h4⟩
  · exact ⟨none, 0, rfl, hl, Nat.le_refl _, Nat.zero_le _, Lib.BytesIn.nil _ _ _, by intro a ha; cases ha⟩
  · refine ⟨some ⟨g, 0, none⟩, cap, rfl, hl, h1, h2, fun h0 => ⟨g, 0, rfl, fun i hi => ?_⟩, fun a ha => by cases ha; exact ⟨(Array.getElem?_eq_some_iff.1 hg).1, hb, rfl⟩⟩
    have hcur : cur[i]? = some (.int .u8 ((Lib.numsL l).getD i 0)) := by
      have : (cur.toList.take (n * 1))[i]? = some (.int .u8 ((Lib.numsL l).getD i 0)) := by
        rw [h4]
        have hi' : i < (Lib.numsL l).length := by rw [Lib.numsL_length]; omega
        simp [List.getElem?_map, List.getElem?_eq_getElem hi', List.getD]
      rw [List.getElem?_take, if_pos (by omega)] at this
      simpa using this
    simp only [World.cell?, hg, Nat.zero_add]
    exact hcur

/-- What a round leaves that was handed a row of its own. -/
def RowPost {β : Type} (J Jx : List β → (Nat → Prop) → World → Prop) (pre : List β) (RB Q : Nat → Prop) (W2 : World) (ok : Bool) (W' : World) : Prop :=
  Keep (fun b => RB b ∨ Q b) W2 W' ∧ ∃ Q' : Nat → Prop, (∀ b, Q b → Q' b) ∧ (∀ b, Q' b → b < W'.heap.size) ∧ ((ok = true ∧ J pre Q' W') ∨ (ok = false ∧ Jx pre Q' W'))

theorem yield_arg {P : Program} {l' : Nat} {β : Type} {Arg : β → Array Value → (Nat → Prop) → World → Prop} {J Jx : List β → (Nat → Prop) → World → Prop} {ys : List β} {RB : Nat → Prop} (hJ : Abide J) (hY : Rounds P l' Arg ys RB J Jx)
    {pre : List β} {y : β} {rest : List β} (hys : ys = pre ++ y :: rest) {Q : Nat → Prop} {W2 w4 : World} {v4 : Value} {args : Array Value} (hj : J pre Q W2) (hQ : ∀ b, Q b → b < W2.heap.size)
    (hb : Below W2.heap.size W2 w4) (hG : ∀ b, v4.ownBlock = some b → W2.heap.size ≤ b ∧ b < w4.heap.size) (hA : Arg y args (fun b => v4.ownBlock = some b) w4) :
    YieldAt Fence.wide 0 P l' args w4 fun e W' => ∃ ok : Bool, e = .returned (.bool ok) ∧ RowPost J Jx (pre ++ [y]) RB Q W2 ok W' := by
  have hs := hb.size
  refine (hY pre y rest (fun b => Q b ∨ (W2.heap.size ≤ b ∧ b < w4.heap.size)) (fun b => v4.ownBlock = some b) args w4 hys ?_ ?_ hA (fun b h => .inr (hG b h))).mono ?_
  · exact hJ _ _ _ _ _ hj ((Keep.of_below hb).mono fun b h _ => h) fun b h => ⟨h.imp id And.left, h.elim (fun h => Nat.lt_of_lt_of_le (hQ b h) hs) And.right⟩
  · exact fun b h => h.elim (fun h => Nat.lt_of_lt_of_le (hQ b h) hs) And.right
  · rintro e W' ⟨hk, h⟩
    have hkk : Keep (fun b => RB b ∨ Q b) W2 W' := ((Keep.of_below hb).mono fun b h _ => h).trans (hk.mono fun b hlt h => h.imp id fun h => ⟨.inl h, fun hg => by have := hG b hg; have := hQ b h; omega⟩)
    have hq1 : ∀ b, Q b → (Q b ∨ (W2.heap.size ≤ b ∧ b < w4.heap.size)) ∧ ¬ v4.ownBlock = some b := fun b h => ⟨.inl h, fun hg => by have := hG b hg; have := hQ b h; omega⟩
    have hq2 : ∀ b, ((Q b ∨ (W2.heap.size ≤ b ∧ b < w4.heap.size)) ∧ ¬ v4.ownBlock = some b) → b < W'.heap.size := fun b h => Nat.lt_of_lt_of_le (h.1.elim (fun h => Nat.lt_of_lt_of_le (hQ b h) hs) And.right) hk.size
    rcases h with ⟨rfl, h⟩ | ⟨rfl, h⟩
    · exact ⟨true, rfl, hkk, _, hq1, hq2, .inl ⟨rfl, h⟩⟩
    · exact ⟨false, rfl, hkk, _, hq1, hq2, .inr ⟨rfl, h⟩⟩

theorem yield_row {P : Program} {l' : Nat} {J Jx : List (List UInt8) → (Nat → Prop) → World → Prop} {ys : List (List UInt8)} {RB : Nat → Prop} (hJ : Abide J) (hY : Rounds P l' RowArg ys RB J Jx)
    {pre : List (List UInt8)} {y : List UInt8} {rest : List (List UInt8)} (hys : ys = pre ++ y :: rest) {Q : Nat → Prop} {W2 w4 : World} {v4 : Value} {n : Nat} (hj : J pre Q W2) (hQ : ∀ b, Q b → b < W2.heap.size)
    (hb : Below W2.heap.size W2 w4) (hn : y.length = n) (hrow : w4.ownsRow W2.heap.size 5 1 v4 n ((Lib.numsL y).map (Value.int .u8))) :
    YieldAt Fence.wide 0 P l' #[v4] w4 fun e W' => ∃ ok : Bool, e = .returned (.bool ok) ∧ RowPost J Jx (pre ++ [y]) RB Q W2 ok W' := by
  subst hn
  exact yield_arg hJ hY hys hj hQ hb (fun b h => hrow.lt b h) ⟨v4, rfl, row_base hrow (Nat.zero_le _), rfl⟩

theorem bytes_take {w : World} {q : Option Addr} {n k : Nat} {l : List UInt8} (h : Lib.BytesIn w q n (Lib.numsL l)) (hl : l.length = n) (hk : k ≤ n) : Lib.BytesIn w q k (Lib.numsL (l.take k)) := fun h0 => by
  obtain ⟨b, o, rfl, hc⟩ := h.at (by omega)
  refine ⟨b, o, rfl, fun i hi => ?_⟩
  rw [hc i (by omega), numsL_getD _ _ (by omega), numsL_getD _ _ (by simp; omega)]
  simp [List.getD, hi]
theorem bytes_keep {S : Nat → Prop} {w w' : World} {q : Option Addr} {n : Nat} {xs : List Int} (h : Lib.BytesIn w q n xs) (hk : Keep S w w') (hq : ∀ a, q = some a → 0 < n → S a.block) : Lib.BytesIn w' q n xs := fun h0 => by
  obtain ⟨b, o, rfl, hc⟩ := h.at h0
  exact ⟨b, o, rfl, fun i hi => (World.cell?_of_block (hk.block b (World.block_lt_of_cell? w _ (hc i hi)) (hq _ rfl h0))).trans (hc i hi)⟩
theorem bytes_lt {w : World} {q : Option Addr} {n : Nat} {xs : List Int} (h : Lib.BytesIn w q n xs) : ∀ a, q = some a → 0 < n → a.block < w.heap.size := fun a ha h0 => by
  obtain ⟨b, o, rfl, hc⟩ := h.at h0
  cases ha
  exact World.block_lt_of_cell? w _ (hc 0 h0)
theorem subA_block {q : Option Addr} {c l : Nat} {a : Addr} (h : subA q c l = some a) : ∃ a', q = some a' ∧ a'.block = a.block := by
  unfold subA at h
  split at h
  · exact ⟨a, h, rfl⟩
  · cases q with
    | none => simp at h
    | some a' =>
      simp at h
      refine ⟨a', rfl, ?_⟩
      rw [← h]
      unfold Addr.add
      split <;> rfl

end Go.Proofs.Ytcahakelihigdaa
