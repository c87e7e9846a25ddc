/- The chapter's example, as the laws ask for it: it holds, in whatever memory. Conditions: none. -/
import Derived.Test.YtefgccdpgfdelaaLawB
import Derived.Test.YtefgccdpgfdelaaCutH
import Derived.Lib.SlBytesConst
import Derived.Lib.SmallJoins
namespace Go.Proofs.Ytefgccdpgfdelaa
open Go.RowKit Go.Shelf

/-- The iterator that Lines hands back, as its caller finds it. -/
theorem Lines_iter {w w' : World} {B n : Nat} {v' : Value} {l : List UInt8} (hn : n ≤ 140737488355328) (hB : Boxed w' B 22 v') (hrow : w'.ownsRow w.heap.size 5 1 v' n ((Lib.numsL l).map (Value.int .u8))) :
    IterC Try.prog 44 #[.pointer (some ⟨B, 0, none⟩)] RowArg (linesL l) (fun b => b = B ∨ v'.ownBlock = some b) w' := by
  obtain ⟨q, c, rfl, hl, hnc, _, hbs, hblk⟩ := row_open hrow
  exact Lines1_iter B q n c l _ w' hl hn hnc hbs (fun a ha _ => .inr (hblk a ha).2.2) hB (.inl rfl) (fun b hb => by
    rcases hb with rfl | hb
    · exact hB.lt
    · exact (hrow.lt b hb).2)

theorem lives_lines : linesL [97, 13, 10, 98] = [[97], [98]] := by decide +kernel
theorem lives_tok : tokL [97, 45, 98] = true := by decide +kernel

/-- The example's text, laid; its bytes. -/
theorem bytes_lit {w : World} (cs : Array Value) (l : List UInt8) (fr : Nat × Nat) (h : cs.toList = (Lib.numsL l).map (Value.int .u8)) : Lib.BytesIn (w.alloc (.cells cs 5 fr)) (some ⟨w.heap.size, 0, none⟩) l.length (Lib.numsL l) := fun _ =>
  ⟨_, _, rfl, fun i hi => by
    have hi' : i < (Lib.numsL l).length := by rw [Lib.numsL_length]; exact hi
    rw [Nat.zero_add, World.cell?_alloc_mark, ← Array.getElem?_toList, h]
    simp [List.getElem?_eq_getElem hi', List.getD]⟩
theorem strs_lit {w : World} (cs : Array Value) (l : List (List UInt8)) (h : cs.toList = l.map strV) : StrsIn (w.alloc (.cells cs 9)) (some ⟨w.heap.size, 0, none⟩) l.length l := fun _ =>
  ⟨_, _, rfl, fun i hi => by
    rw [Nat.zero_add, World.cell?_alloc_mark, ← Array.getElem?_toList, h]
    simp [List.getElem?_eq_getElem hi, List.getD]⟩
theorem strs_keep {S : Nat → Prop} {w w' : World} {q : Option Addr} {n : Nat} {xs : List (List UInt8)} (h : StrsIn w q n xs) (hk : Keep S w w') (hq : ∀ a, q = some a → 0 < n → S a.block) : StrsIn w' q n xs := fun h0 => by
  obtain ⟨b, o, rfl, hc⟩ := h h0
  exact ⟨b, o, rfl, fun i hi => (World.cell?_of_block (hk.block b (World.block_lt_of_cell? w _ (hc i hi)) (hq _ rfl h0))).trans (hc i hi)⟩

set_option maxHeartbeats 1000000 in
theorem lives_any (w : World) : Calls Try.prog 8 #[] w fun e w' => e = .returned (.bool true) ∧ Below w.heap.size w w' := by
  have kc := fun (w : World) (C : Array Value) (n c : Nat) => Lib.run_convert_bytes_const (P := Try.prog) w 22 5 C n c Try.underlying22 Try.underlying5
  have hb1 := bytes_lit (w := w) #[.int .u8 97, .int .u8 13, .int .u8 10, .int .u8 98] [97, 13, 10, 98] (4, 5) rfl
  have con1 := Lines_any (some ⟨w.heap.size, 0, none⟩) 4 4 [97, 13, 10, 98] _ rfl (by omega) hb1
  clear hb1
  go_enter Try.func8, Try.ntmps8
  go_wp2_with fail
  refine con1.mono ?_
  rintro e w2 ⟨B, v', rfl, hB, hrow, hBw, hbel2⟩
  have hit := Lines_iter (by omega) hB hrow
  have hsz1 : w.heap.size + 1 ≤ w2.heap.size := by have := hbel2.size; simpa using this
  have hb2 : Below w.heap.size w w2 := ((Below.refl _ w).alloc (Nat.le_refl _) _).trans (hbel2.mono (by simp))
  have con2 := all_any _ _ _ _ w2 (enters_of Try.func44 (by kernel_rfl) rfl) hit (fun b hb => by
    rcases hb with rfl | hb
    · exact hB.lt
    · exact (hrow.lt b hb).2) (by rw [lives_lines]; decide) (by rw [lives_lines]; decide)
  rw [lives_lines] at con2
  clear hit con1 hbel2 hrow hB hBw
  go_wp2_with fail
  refine con2.mono ?_
  rintro e w3 ⟨v3, rfl, hrow3, hbel3⟩
  obtain ⟨q3, c3, rfl, _, hc3, _, hst3, hblk3⟩ := strs_row hrow3
  have hb3 : Below w.heap.size w w3 := hb2.trans (hbel3.mono (by omega))
  have hl1 := strs_keep hst3 (Keep.alloc (fun _ => True) w3 (.cells #[.string ⟨#[97]⟩, .string ⟨#[98]⟩] 9)) (fun _ _ _ => trivial)
  have hl2 := strs_lit (w := w3) #[.string ⟨#[97]⟩, .string ⟨#[98]⟩] [[97], [98]] rfl
  have con3 := fun d => Same_any q3 (some ⟨w3.heap.size, 0, none⟩) 2 c3 2 d [[97], [98]] [[97], [98]] _ rfl rfl (by omega) (by omega) hl1 hl2
  rw [show sameL [[97], [98]] [[97], [98]] = true from by decide] at con3
  have hb4 : Below w.heap.size w (w3.alloc (.cells #[.string ⟨#[97]⟩, .string ⟨#[98]⟩] 9)) := hb3.alloc hb3.size _
  obtain ⟨w4, hw4⟩ : ∃ w4, w3.alloc (.cells #[.string ⟨#[97]⟩, .string ⟨#[98]⟩] 9) = w4 := ⟨_, rfl⟩
  rw [hw4] at con3 hb4
  clear hl1 hl2 hst3 hrow3 con2
  go_wp2_with fail
  refine (con3 _).mono ?_
  rintro e w5 ⟨rfl, hq5⟩
  have hb5 : Below w.heap.size w w5 := by obtain ⟨qd, rfl⟩ := hq5; exact hb4.trans ⟨rfl, rfl, rfl, Nat.le_refl _, fun _ _ => rfl⟩
  have hbt := bytes_lit (w := w5) #[.int .u8 97, .int .u8 45, .int .u8 98] [97, 45, 98] (3, 4) rfl
  have con4 := fun c => Token_any (some ⟨w5.heap.size, 0, none⟩) 3 c [97, 45, 98] _ rfl (by omega) hbt
  rw [lives_tok] at con4
  have hb6 := hb5.alloc hb5.size (.cells #[.int .u8 97, .int .u8 45, .int .u8 98] 5 (3, 4))
  clear hw4 hbt hb5 hb4 hq5 con3
  go_wp2_with fail
  refine (con4 _).mono ?_
  rintro e w7 ⟨rfl, rfl⟩
  go_wp2
  go_ret
  exact ⟨rfl, hb6⟩

end Go.Proofs.Ytefgccdpgfdelaa
