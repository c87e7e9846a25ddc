/- What a caller of Fields finds, and how much it tells. Conditions: a text is of at most the model's greatest length. -/
import Derived.Test.YtefgccdpgfdelaaFieldB
import Derived.Test.YtefgccdpgfdelaaFieldD
import Derived.Test.YtefgccdpgfdelaaOrdP
import Derived.Test.YtefgccdpgfdelaaLawF
namespace Go.Proofs.Ytefgccdpgfdelaa
open Go.RowKit Go.Shelf

theorem Fields_iter {w w' : World} {B n : Nat} {v' : Value} {l : List UInt8} (hn : n ≤ 140737488355328) (hln : l.length = n) (hB : Boxed w' B 22 v') (hrow : w'.ownsRow w.heap.size 5 1 v' n ((Lib.numsL l).map (Value.int .u8))) :
    IterC Try.prog 32 #[.pointer (some ⟨B, 0, none⟩)] RowArg (fieldsL l) (fun b => b = B ∨ v'.ownBlock = some b) w' := by
  obtain ⟨q, c, rfl, hl, hnc, _, hbs, hblk⟩ := row_open hrow
  exact Fields1_iter B q n c l _ w' hl hn hnc hbs (fun a ha _ => .inr (hblk a ha).2.2) hB (.inl rfl) (fun b hb => by
    rcases hb with rfl | hb
    · exact hB.lt
    · exact (hrow.lt b hb).2)

theorem fields_len (l : List UInt8) : (fieldsL l).length ≤ (spansL blankB l).length := by
  unfold fieldsL fieldsOf
  rw [List.length_map]
  exact List.length_filter_le _ _
theorem fields_mem (l x : List UInt8) (h : x ∈ fieldsL l) : x.length ≤ l.length := by
  unfold fieldsL fieldsOf at h
  obtain ⟨y, _, rfl⟩ := List.mem_map.1 h
  unfold sub
  rw [List.length_take, List.length_drop]
  omega

end Go.Proofs.Ytefgccdpgfdelaa
