/- What the laws of percent begin with; answers that are texts. Conditions: none. -/
import Derived.Test.YtfhgbokimkmpjaaPctK
import Derived.Test.YtfhgbokimkmpjaaPctW
import Derived.Lib.SlBytesConst
namespace Go.Proofs.Ytfhgbokimkmpjaa.Pct
open Go.RowKit Go.Shelf

theorem text_some {l : List UInt8} {k : Nat} {w w' : World} {e : Ending} (hk : l.length = k) (h : TextPost (some l) w e w') :
    ∃ q c, e = .returned (.tuple #[.slice q k c, .int .i64 0]) ∧ k ≤ c ∧ Lib.BytesIn w' q k (Lib.numsL l) ∧ Below w.heap.size w w' := by
  subst hk
  obtain ⟨v, n, rfl, hn, hr, hb⟩ := h
  obtain ⟨q, c, rfl, _, hc, _, hby, _⟩ := row_open hr
  obtain rfl : n = 0 := hn.out
  exact ⟨q, c, rfl, hc, hby, hb⟩
theorem text_none {w w' : World} {e : Ending} (h : TextPost none w e w') : ∃ q c, e = .returned (.tuple #[.slice q 0 c, .int .i64 2]) ∧ Below w.heap.size w w' := by
  obtain ⟨v, n, rfl, hn, hr, hb⟩ := h
  obtain ⟨q, c, rfl, _, hc, _, hby, _⟩ := row_open hr
  obtain rfl : n = 2 := hn.out
  exact ⟨q, c, rfl, hb⟩
theorem bytes_on {w w' : World} {q : Option Addr} {n : Nat} {xs : List Int} (h : Lib.BytesIn w q n xs) (hk : Below w.heap.size w w') : Lib.BytesIn w' q n xs := bytes_below h hk (bytes_lt h)
theorem str_eq (l m : List UInt8) : ((⟨l.toArray⟩ : ByteArray).toList == (⟨m.toArray⟩ : ByteArray).toList) = decide (l = m) := by
  rw [Lib.toList_data, Lib.toList_data, Bool.eq_iff_iff, beq_iff_eq, decide_eq_true_iff]

/-- 'append(dst, src...)', dst the call's own, src whatever slice of bytes. -/
theorem wpList_append_bytes {ops : Array Oper} {rest : List Oper} {o : Oper} {a : Act} {w : World} {Q : Exit → Act → World → Prop} (hgd : o.guard = none) (s x : Operand)
    (ho : o.op = .call { callee := .builtin .append, args := #[s, x], argTypes := #[22, 22] })
    (base : Nat) (v : Value) (n : Nat) (xs : List Value) (hs : a.eval s = v) (hown : w.ownsRow base 5 1 v n xs) (p : Option Addr) (m c : Nat) (bs : List UInt8) (hx : a.eval x = .slice p m c) (hp : p = none → m = 0 ∧ c = 0)
    (hl : bs.length = m) (hb : Lib.BytesIn w p m (Lib.numsL bs)) (h47 : n + m ≤ 140737488355328) (hbase : base ≤ w.heap.size)
    (h : ∀ v' w', w'.ownsRow base 5 1 v' (n + m) (xs ++ (Lib.numsL bs).map (Value.int .u8)) → w.grownBy w' v.ownBlock → wpList Try.prog ops Q rest (a.put o.dst v') w') : wpList Try.prog ops Q (o :: rest) a w := by
  obtain ⟨i0, hi0, hz0, hz1, hz2⟩ := info_parts info_u8
  cases p with
  | none =>
    obtain ⟨rfl, rfl⟩ := hp rfl
    obtain rfl : bs = [] := List.eq_nil_of_length_eq_zero hl
    refine wpList_append_own_none hgd s x _ ho base 5 i0 1 Try.underlying22 hi0 v n xs hs hown hx (h v w ?_ ⟨rfl, rfl, rfl, Nat.le_refl _, fun _ _ _ => rfl⟩)
    simpa [Lib.numsL] using hown
  | some ad =>
    refine wpList_append_own w hgd s x _ ho base 5 i0 (.int .u8 0) 1 1 Try.underlying22 hi0 hz0 hz1 hz2 rfl (by decide) v n xs hs hown ad m c ((Lib.numsL bs).map (Value.int .u8)) hx (by simp [Lib.numsL, hl]) (fun j u hj => ?_) (by simp [Lib.numsL, Value.oneCell']) (by unfold maxLen; omega) (by omega) hbase (fun v' w' h1 h2 _ => h v' w' h1 h2)
    rcases Nat.lt_or_ge j m with h' | h'
    · obtain ⟨b, o, he, hcc⟩ := hb.at (by omega)
      cases he
      have hj' : j < (Lib.numsL bs).length := by rw [Lib.numsL_length]; omega
      rw [Go.WideShapes.add_plain, hcc j h']
      rw [List.getElem?_map, List.getElem?_eq_getElem hj'] at hj
      simp only [Option.map_some, Option.some.injEq] at hj
      rw [← hj, List.getD, List.getElem?_eq_getElem hj']
      rfl
    · rw [List.getElem?_eq_none (by rw [List.length_map, Lib.numsL_length]; omega)] at hj
      cases hj

theorem live_items : (itemsL [37, 55, 101, 37, 50, 102, 32]).map (canL 1) = some [126, 37, 50, 70, 37, 50, 48] := by decide +kernel

set_option maxRecDepth 100000 in
set_option maxHeartbeats 2000000 in
theorem lives_any (w : World) : Calls Try.prog 7 #[] w fun e w' => e = .returned (.bool true) ∧ Below w.heap.size w w' := by
  have hby := bytes_lit (w := w) #[.int .u8 37, .int .u8 55, .int .u8 101, .int .u8 37, .int .u8 50, .int .u8 102, .int .u8 32] [37, 55, 101, 37, 50, 102, 32] (7, 8) rfl
  have kc := fun (w : World) (C : Array Value) (n c : Nat) => Lib.run_convert_bytes_const (P := Try.prog) w 22 5 C n c Try.underlying22 Try.underlying5
  have con := Canon_any (some ⟨w.heap.size, 0, none⟩) 7 7 [37, 55, 101, 37, 50, 102, 32] 1 _ rfl (by omega) hby
  have hb0 := below_alloc (w := w) (.cells #[.int .u8 37, .int .u8 55, .int .u8 101, .int .u8 37, .int .u8 50, .int .u8 102, .int .u8 32] 5 (7, 8))
  rw [live_items] at con
  have e1 := str_eq [126, 37, 50, 70, 37, 50, 48] [126, 37, 50, 70, 37, 50, 48]
  rw [decide_eq_true rfl] at e1
  clear hby
  go_enter Try.func7, Try.ntmps7
  go_wp2_with fail
  refine con.mono ?_
  intro e w2 hp
  obtain ⟨q, c, rfl, hc, hby, hb⟩ := text_some (k := 7) rfl hp
  have hcv := conv_bytes (c := c) hby rfl
  have hb2 := hb0.trans (hb.mono (by simp))
  clear con hp hb0 hby hb kc
  go_wp2
  go_ret
  exact ⟨rfl, hb2⟩

end Go.Proofs.Ytfhgbokimkmpjaa.Pct
