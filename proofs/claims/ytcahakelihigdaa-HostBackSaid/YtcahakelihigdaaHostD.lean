/- host.Parse. Conditions: a text is of at most the model's greatest length. -/
import Derived.Test.YtcahakelihigdaaHostC
import Derived.Test.YtcahakelihigdaaHostS
namespace Go.Proofs.Ytcahakelihigdaa.Host
open Go.RowKit Go.Shelf

/-- The canon of a host, or nothing. -/
def canL (l : List UInt8) : List UInt8 := if parseE l = 0 then Ref.lowL l else []
/-- A host's canon in a row of one's own, or the error's number. -/
def CanOut (l : List UInt8) (w : World) (e : Ending) (w' : World) : Prop :=
  ∃ v, e = .returned (.tuple #[v, .int .i64 (parseE l)]) ∧ w'.ownsRow w.heap.size 5 1 v (canL l).length ((Lib.numsL (canL l)).map (Value.int .u8)) ∧ Below w.heap.size w w'
theorem can_err {l : List UInt8} {n : Int} {w w' : World} (h : parseE l = n) (hn : n ≠ 0) (hb : Below w.heap.size w w') : CanOut l w (.returned (.tuple #[.slice none 0 0, .int .i64 n])) w' := by
  subst h
  have hc : canL l = [] := by unfold canL; rw [if_neg hn]
  exact ⟨_, rfl, by rw [hc]; exact World.ownsRow_nil _ _ _ _, hb⟩
theorem can_ok {l : List UInt8} {n : Nat} {v : Value} {w w' : World} (h : parseE l = 0) (hl : l.length = n) (hr : w'.ownsRow w.heap.size 5 1 v n ((Lib.numsL (lowL l)).map (Value.int .u8))) (hb : Below w.heap.size w w') : CanOut l w (.returned (.tuple #[v, .int .i64 0])) w' := by
  have hc : canL l = lowL l := by unfold canL; rw [if_pos h]; rfl
  exact ⟨_, by rw [h], by rw [hc, lowL_length, hl]; exact hr, hb⟩

set_option maxRecDepth 100000 in
set_option maxHeartbeats 4000000 in
theorem Parse_any (q : Option Addr) (n c : Nat) (l : List UInt8) (w : World) (hl : l.length = n) (hn : n ≤ 140737488355328) (h : Lib.BytesIn w q n (Lib.numsL l)) :
    Calls Try.prog 8 #[.slice q n c] w fun e w' => CanOut l w e w' := by
  by_cases hbig : 253 < n
  · have d1 : decide ((253 : Int) < (n : Int)) = true := by simp; omega
    have H := Lib.hid (Ref.parse_big l (by omega))
    clear h hl
    go_enter Try.func8, Try.ntmps8
    go_wp2
    go_ret2
    exact can_err H.out (by decide) (Below.refl _ _)
  · have d1 : decide ((253 : Int) < (n : Int)) = false := by simp; omega
    have con := isHost_any q n c l w hl (by omega) h
    have PH := Lib.hid (Ref.parse_host l (by omega))
    have PN := Lib.hid (Ref.parse_none l (by omega))
    have HL := Lib.hid hl
    cases hb : hostB (Ref.splitL 46 l) with
    | false =>
      have H := Lib.hid (PN.out hb)
      rw [hb] at con
      clear hb PH PN h hl
      go_enter Try.func8, Try.ntmps8
      go_wp2_with fail
      refine con.mono ?_
      rintro e w2 ⟨rfl, hb2⟩
      clear con
      go_wp2
      go_ret2
      exact can_err H.out (by decide) hb2
    | true =>
      have H := Lib.hid (PH.out hb)
      rw [hb] at con
      clear hb PH PN hl
      go_enter Try.func8, Try.ntmps8
      go_wp2_with fail
      refine con.mono ?_
      rintro e w2 ⟨rfl, hb2⟩
      have con2 := Lower_any q n c l w2 HL.out hn (bytes_keep h (Keep.of_below hb2) (fun a h1 h2 => bytes_lt h a h1 h2))
      clear con h
      go_wp2_with fail
      refine con2.mono ?_
      rintro e w3 ⟨v3, rfl, hrow, hb3⟩
      have hrow' := row_base hrow hb2.size
      have hb' := hb2.trans (hb3.mono hb2.size)
      clear con2 hrow
      go_wp2
      go_ret2
      exact can_ok H.out HL.out hrow' hb'

end Go.Proofs.Ytcahakelihigdaa.Host
