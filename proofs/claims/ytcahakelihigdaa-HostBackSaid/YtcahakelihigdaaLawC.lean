/- The chapter's example, as the laws ask for it: it holds, in whatever memory. Conditions: none. -/
import Derived.Test.YtcahakelihigdaaLawB
import Derived.Test.YtcahakelihigdaaCutH
import Derived.Lib.SlBytesConst
import Derived.Lib.SmallJoins
namespace Go.Proofs.Ytcahakelihigdaa
open Go.RowKit Go.Shelf

theorem lives_lines : linesL [97, 13, 10, 98] = [[97], [98]] := by decide +kernel
theorem lives_tok : tokL [97, 45, 98] = true := by decide +kernel

/-- The example's text, laid; its bytes. -/
theorem bytes_lit {w : World} (cs : Array Value) (l : List UInt8) (fr : Nat × Nat) (h : cs.toList = (Lib.numsL l).map (Value.int .u8)) : Lib.BytesIn (w.alloc (.cells cs 5 fr)) (some ⟨w.heap.size, 0, none⟩) l.length (Lib.numsL l) := fun _ =>
  ⟨_, _, rfl, fun i hi => by
    have hi' : i < (Lib.numsL l).length := by rw [Lib.numsL_length]; exact hi
    rw [Nat.zero_add, World.cell?_alloc_mark, ← Array.getElem?_toList, h]
    simp [List.getElem?_eq_getElem hi', List.getD]⟩
theorem strs_lit {w : World} (cs : Array Value) (l : List (List UInt8)) (h : cs.toList = l.map strV) : StrsIn (w.alloc (.cells cs 9)) (some ⟨w.heap.size, 0, none⟩) l.length l := fun _ =>
  ⟨_, _, rfl, fun i hi => by
    rw [Nat.zero_add, World.cell?_alloc_mark, ← Array.getElem?_toList, h]
    simp [List.getElem?_eq_getElem hi, List.getD]⟩
theorem strs_keep {S : Nat → Prop} {w w' : World} {q : Option Addr} {n : Nat} {xs : List (List UInt8)} (h : StrsIn w q n xs) (hk : Keep S w w') (hq : ∀ a, q = some a → 0 < n → S a.block) : StrsIn w' q n xs := fun h0 => by
  obtain ⟨b, o, rfl, hc⟩ := h h0
  exact ⟨b, o, rfl, fun i hi => (World.cell?_of_block (hk.block b (World.block_lt_of_cell? w _ (hc i hi)) (hq _ rfl h0))).trans (hc i hi)⟩

end Go.Proofs.Ytcahakelihigdaa
