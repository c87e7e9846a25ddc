/- host.Up. Conditions: a text is of at most 2^40 bytes. -/
import Derived.Test.YtcahakelihigdaaHostE
namespace Go.Proofs.Ytcahakelihigdaa.Host
open Go.RowKit Go.Shelf
attribute [local go_sem] Oper.semAt_some

theorem Up1_iter (w0 : World) : IterC Try.prog 28 #[] RowArg [] (fun _ => False) w0 := by
  intro l' J Jx W hW hJ hJx hY h0
  refine (callsIn_wide (n := 1)).1 ?_
  refine callsIn_of_wp Try.func28 rfl trivial ?_ rfl
  simp only [Try.ntmps28, List.size_toArray, List.length_cons, List.length_nil, Nat.reduceAdd, Nat.reduceSub, Array.replicate_succ, Array.replicate_zero, List.push_toArray, List.append_toArray, List.nil_append, List.cons_append]
  gi_wp2
  refine bodyPost_end (results_none rfl _ _ _) rfl ?_
  exact ⟨⟨_, rfl⟩, fun _ => False, fun _ h => h.elim, .inl h0⟩

/-- An iterator that tells these texts, its memory its own. -/
def UpOut (xs : List (List UInt8)) (w : World) (e : Ending) (w' : World) : Prop :=
  ∃ (gf : Nat) (lb : Array Value) (RB : Nat → Prop), e = .returned (.func (.func gf) #[] lb) ∧ (∀ args w, (callFunc gf args).run Try.prog w = .ok (.enter gf args) w) ∧ IterC Try.prog gf lb RowArg xs RB w' ∧
    (∀ b, RB b → w.heap.size ≤ b ∧ b < w'.heap.size) ∧ (∀ w'' : World, (binOp .eql 32 (.func (.func gf) #[] lb) .nilFunc).run Try.prog w'' = .ok (.bool false) w'') ∧ Below w.heap.size w w'
theorem out_nothing {xs : List (List UInt8)} {w w' : World} (h : xs = []) (hb : Below w.heap.size w w') : UpOut xs w (.returned (.func (.func 28) #[] #[])) w' := by
  subst h
  exact ⟨_, _, _, rfl, enters_of Try.func28 (by kernel_rfl) rfl, Up1_iter w', fun _ h => h.elim, fun _ => by kernel_rfl, hb⟩
theorem bytes_eq (xs ys : List UInt8) : (Lib.bytesOf (Lib.numsL xs) == Lib.bytesOf (Lib.numsL ys)) = decide (xs = ys) := by
  rw [Lib.bytesOf_numsL, Lib.bytesOf_numsL, Bool.eq_iff_iff, beq_iff_eq, decide_eq_true_iff]

theorem can_at {l : List UInt8} {n : Int} {w w' : World} {e : Ending} (h : CanOut l w e w') (hn : parseE l = n) (h0 : n ≠ 0) :
    ∃ q c, e = .returned (.tuple #[.slice q 0 c, .int .i64 n]) ∧ (q = none → c = 0) ∧ Below w.heap.size w w' := by
  subst hn
  obtain ⟨v, rfl, hr, hb⟩ := h
  have hc : canL l = [] := by unfold canL; rw [if_neg h0]
  rw [hc] at hr
  have hr' : w'.ownsRow w.heap.size 5 1 v 0 ((Lib.numsL []).map (Value.int .u8)) := hr
  obtain ⟨q, c, rfl, _⟩ := row_open hr'
  exact ⟨q, c, rfl, fun h => by subst h; exact (row_nil hr').2, hb⟩
theorem can_at0 {l : List UInt8} {n : Nat} {w w' : World} {e : Ending} (h : CanOut l w e w') (hn : parseE l = 0) (hl : l.length = n) :
    ∃ q c, e = .returned (.tuple #[.slice q n c, .int .i64 0]) ∧ (q = none → n = 0 ∧ c = 0) ∧ n ≤ c ∧ w'.ownsRow w.heap.size 5 1 (.slice q n c) n ((Lib.numsL (lowL l)).map (Value.int .u8)) ∧ Below w.heap.size w w' := by
  obtain ⟨v, rfl, hr, hb⟩ := h
  have hc : canL l = lowL l := by unfold canL; rw [if_pos hn]; rfl
  rw [hc, lowL_length, hl] at hr
  obtain ⟨q, c, rfl, _, h1, _⟩ := row_open hr
  exact ⟨q, c, by rw [hn], fun h => by subst h; exact row_nil hr, h1, hr, hb⟩

set_option maxRecDepth 100000 in
set_option maxHeartbeats 4000000 in
theorem Up_any (q : Option Addr) (n c : Nat) (l : List UInt8) (w : World) (hl : l.length = n) (hn : n ≤ 1099511627775) (h : Lib.BytesIn w q n (Lib.numsL l)) :
    Calls Try.prog 12 #[.slice q n c] w fun e w' => UpOut (upL l) w e w' := by
  have con := Parse_any q n c l w hl (by omega) h
  have HL := Lib.hid hl
  by_cases h0 : parseE l = 0
  · have HP := Lib.hid h0
    have U1 := Lib.hid (fun hlow => upX_up l h0 hlow)
    have hq := bytes_lt h
    by_cases hlow : lowL l = l
    · have HU := Lib.hid (U1.out hlow)
      have HW := Lib.hid hlow
      have con2 := fun (p1 : Option Addr) c1 W hb1 hb2 => Try.bytes_Equal_all p1 q n c1 n c (Lib.numsL l) (Lib.numsL l) W (by rw [Lib.numsL_length, hl]) (by rw [Lib.numsL_length, hl]) hb1 hb2
      rw [bytes_eq, decide_eq_true rfl] at con2
      clear hl h0 hlow U1
      go_enter Try.func12, Try.ntmps12
      go_wp2_with fail
      refine con.mono ?_
      intro e w2 ho
      obtain ⟨q2, c2, rfl, hq2, hc2, hrow2, hb2⟩ := can_at0 ho HP.out HL.out
      rw [HW.out] at hrow2
      have hbx := (row_open hrow2)
      obtain ⟨_, _, hcl, _, _, _, hbs2, hblk2⟩ := hbx
      cases hcl
      have bx := Boxed.new w2 22 (.slice q2 n c2)
      have hb3 := hb2.alloc hb2.size (.cells #[.slice q2 n c2] 22)
      have hbs3 := bytes_keep hbs2 (Keep.alloc (fun _ => True) w2 (.cells #[.slice q2 n c2] 22)) (fun _ _ _ => trivial)
      have hbs3' := bytes_keep h (Keep.of_below hb3) (fun a h1 h2 => hq a h1 h2)
      have hrow3 := hrow2.alloc (.cells #[.slice q2 n c2] 22)
      have con3 := con2 q2 c2 _ hbs3 hbs3'
      obtain ⟨W3, hW3⟩ : ∃ W3, w2.alloc (.cells #[.slice q2 n c2] 22) = W3 := ⟨_, rfl⟩
      rw [hW3] at bx hb3 hbs3 hbs3' hrow3 con3
      have HW3 := Lib.hid hW3
      have con4 := Address_any q2 n c2 l W3 HL.out (by omega) hbs3
      have cx := bx.cell
      have hs3 := hb3.size
      have hs2 := hb2.size
      have hs23 : W3.heap.size = w2.heap.size + 1 := by rw [← hW3]; simp
      clear ho con con2 hrow2 hbs2 hb2 h hblk2 hbs3' hW3
      go_wp2_with fail
      rw [HW3.out]
      refine con3.mono ?_
      rintro e w' ⟨rfl, hw⟩
      subst hw
      clear con3
      go_wp2_with fail
      refine con4.mono ?_
      rintro e w4 ⟨rfl, hb4⟩
      have k4 : ∀ S : Nat → Prop, (∀ b, S b → b < w'.heap.size) → Keep S w' w4 := fun S hS => (Keep.of_below hb4).mono fun b _ h => hS b h
      have bx4 := (Keep.of_below hb4).boxed bx bx.lt
      have hrow4 := (Keep.of_below hb4).row hrow3 (fun b hb => (hrow3.lt b hb).2)
      have hb04 := hb3.trans (hb4.mono hs3)
      have hs4 := hb4.size
      generalize addressB l = ad at *
      clear con4 hrow3 hbs3 bx cx k4
      go_wp2
      go_ret
      have bg := Boxed.new w4 4 (.bool (!ad))
      have bx5 := bx4.alloc (.cells #[.bool (!ad)] 4)
      have hrow5 := hrow4.alloc (.cells #[.bool (!ad)] 4)
      have hb5 := hb04.alloc hb04.size (.cells #[.bool (!ad)] 4)
      obtain ⟨_, _, hcl, _, _, _, hbs5, hblk5⟩ := row_open hrow5
      cases hcl
      have hrl := fun b hb => hrow5.lt b hb
      have hs5 : (w4.alloc (.cells #[.bool (!ad)] 4)).heap.size = w4.heap.size + 1 := by simp
      generalize w4.alloc (.cells #[.bool (!ad)] 4) = W5 at *
      have hRl : ∀ b, (b = w2.heap.size ∨ b = w4.heap.size ∨ (Value.slice q2 n c2).ownBlock = some b) → w.heap.size ≤ b ∧ b < W5.heap.size := fun b hb => by
        rcases hb with rfl | rfl | hb
        · exact ⟨hs2, bx5.lt⟩
        · exact ⟨by omega, bg.lt⟩
        · exact hrl b hb
      refine ⟨29, _, fun b => b = w2.heap.size ∨ b = w4.heap.size ∨ (Value.slice q2 n c2).ownBlock = some b, rfl, enters_of Try.func29 (by kernel_rfl) rfl, ?_, hRl, fun _ => by kernel_rfl, hb5⟩
      rw [HU.out]
      exact Up2_iter w2.heap.size w4.heap.size q2 n c2 l (!ad) _ W5 HL.out hn hc2 hq2 hbs5 (fun a ha _ => .inr (.inr (hblk5 a ha).2.2)) bx5 (.inl rfl) bg (.inr (.inl rfl)) (fun b hb => (hRl b hb).2)
    · have HU := Lib.hid (show upL l = [] by unfold upL; rw [if_neg (fun h => hlow h.2)])
      have con2 := fun (p1 : Option Addr) c1 W hb1 hb2 => Try.bytes_Equal_all p1 q n c1 n c (Lib.numsL (lowL l)) (Lib.numsL l) W (by rw [Lib.numsL_length, lowL_length, hl]) (by rw [Lib.numsL_length, hl]) hb1 hb2
      rw [bytes_eq, decide_eq_false hlow] at con2
      clear hl h0 hlow U1
      go_enter Try.func12, Try.ntmps12
      go_wp2_with fail
      refine con.mono ?_
      intro e w2 ho
      obtain ⟨q2, c2, rfl, hq2, hc2, hrow2, hb2⟩ := can_at0 ho HP.out HL.out
      obtain ⟨_, _, hcl, _, _, _, hbs2, hblk2⟩ := row_open hrow2
      cases hcl
      have bx := Boxed.new w2 22 (.slice q2 n c2)
      have hb3 := hb2.alloc hb2.size (.cells #[.slice q2 n c2] 22)
      have hbs3 := bytes_keep hbs2 (Keep.alloc (fun _ => True) w2 (.cells #[.slice q2 n c2] 22)) (fun _ _ _ => trivial)
      have hbs3' := bytes_keep h (Keep.of_below hb3) (fun a h1 h2 => hq a h1 h2)
      have con3 := con2 q2 c2 _ hbs3 hbs3'
      clear ho con con2 hrow2 hbs2 hb2 h hblk2 hbs3' hbs3
      go_wp2_with fail
      refine con3.mono ?_
      rintro e w' ⟨rfl, hw⟩
      subst hw
      clear con3
      go_wp2
      go_ret
      exact out_nothing HU.out hb3
  · have H := Lib.hid (show upL l = [] by unfold upL; rw [if_neg (fun h => h0 h.1)])
    obtain ⟨pe, hpe⟩ : ∃ pe, parseE l = pe := ⟨_, rfl⟩
    rw [hpe] at h0
    have HP := Lib.hid hpe
    have e1 : (pe == 0) = false := by rw [beq_eq_false_iff_ne]; exact h0
    have e2 : (pe != 0) = true := by unfold bne; rw [e1]; rfl
    have H0 := Lib.hid h0
    clear hl h hpe h0
    go_enter Try.func12, Try.ntmps12
    go_wp2_with fail
    refine con.mono ?_
    intro e w2 ho
    obtain ⟨q2, c2, rfl, _, hb2⟩ := can_at ho HP.out H0.out
    clear ho con
    go_wp2
    go_ret
    exact out_nothing H.out (hb2.alloc hb2.size _)

end Go.Proofs.Ytcahakelihigdaa.Host
