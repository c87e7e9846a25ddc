/- The iterator of a set's values with their places. Conditions: a row is of at most the model's greatest length. -/
import Derived.Test.YthfclmnmnmeldaaSetJ
namespace Go.Proofs.Ythfclmnmnmeldaa
open Go.RowKit Go.Shelf
attribute [local go_sem] Oper.semAt_some

/-- A number and a value, as yield takes them. -/
def NumArg {α : Type} (enc : α → Value) (x : Nat × α) (args : Array Value) (G : Nat → Prop) (_W : World) : Prop := args = #[.int .i64 (x.1 : Int), enc x.2] ∧ G = fun _ => False
/-- Values, counted. -/
def nums {α : Type} : Nat → List α → List (Nat × α)
  | _, [] => []
  | k, x :: r => (k, x) :: nums (k + 1) r
theorem nums_snd {α : Type} : ∀ (k : Nat) (l : List α), (nums k l).map Prod.snd = l
  | _, [] => rfl
  | k, x :: r => by unfold nums; rw [List.map_cons, nums_snd (k + 1) r]
theorem nums_length {α : Type} (k : Nat) (l : List α) : (nums k l).length = l.length := by
  have := congrArg List.length (nums_snd k l); simpa using this
theorem nums_fst {α : Type} : ∀ (k : Nat) (l : List α) (pre : List (Nat × α)) (p : Nat × α) (rest : List (Nat × α)), nums k l = pre ++ p :: rest → p.1 = k + pre.length
  | _, [], pre, p, rest, h => by unfold nums at h; simp at h
  | k, x :: r, [], p, rest, h => by unfold nums at h; simp at h; rw [← h.1]; rfl
  | k, x :: r, a :: pre, p, rest, h => by
    unfold nums at h; simp at h
    have := nums_fst (k + 1) r pre p rest h.2
    simp; omega

theorem All_any (v : Value) (xs : List Int) (w : World) (h : SetIs (Value.int .i64) w v xs) :
    Calls Try.prog 33 #[v] w fun e w' => ∃ q c, e = .returned (.func (.func 60) #[] #[.pointer (some ⟨w.heap.size + 1, 0, none⟩)]) ∧ xs.length ≤ c ∧ xs.length ≤ 140737488355328 ∧ SlIn (Value.int .i64) w' q xs.length xs ∧
      Boxed w' (w.heap.size + 1) 22 (.slice q xs.length c) ∧ w'.heap.size = w.heap.size + 2 ∧ Below w.heap.size w w' := by
  obtain ⟨q, n, c, rfl, hc, hn, hs, _⟩ := h
  obtain rfl := hs.1
  have hs2 := (hs.alloc (.cells #[.slice q xs.length c] 25)).alloc (.cells #[.slice q xs.length c] 22)
  have b2 := Boxed.new (w.alloc (.cells #[.slice q xs.length c] 25)) 22 (.slice q xs.length c)
  rw [World.size_alloc] at b2
  have con : ∀ W : World, Calls Try.prog 45 #[.slice q xs.length c] W fun e w' => e = .returned (.func (.func 60) #[] #[.pointer (some ⟨W.heap.size, 0, none⟩)]) ∧ w' = W.alloc (.cells #[.slice q xs.length c] 22) := fun W => by
    clear hs hs2 b2 hc hn
    go_enter Try.func45, Try.ntmps45
    go_wp2
    go_ret
    exact ⟨rfl, rfl⟩
  clear hs
  go_enter Try.func33, Try.ntmps33
  go_wp2_with fail
  refine (con _).mono ?_
  rintro e w' ⟨rfl, rfl⟩
  go_wp2
  go_ret
  exact ⟨q, c, rfl, hc, hn, hs2, b2, by simp, (below_alloc _).trans ((below_alloc _).mono (by simp))⟩

set_option maxRecDepth 100000 in
set_option maxHeartbeats 2000000 in
theorem All1_iter (B : Nat) (q : Option Addr) (n c : Nat) (xs : List Int) (RB : Nat → Prop) (w0 : World) (hm : n ≤ 140737488355328)
    (h : SlIn (Value.int .i64) w0 q n xs) (hq : ∀ a, q = some a → 0 < n → RB a.block) (b : Boxed w0 B 22 (.slice q n c)) (hR : RB B) :
    IterC Try.prog 60 #[.pointer (some ⟨B, 0, none⟩)] (NumArg (Value.int .i64)) (nums 0 xs) RB w0 := by
  intro l J Jx W hW hJ hJx hY h0
  refine (callsIn_wide (n := 1)).1 ?_
  refine callsIn_of_wp Try.func60 rfl trivial ?_ rfl
  simp only [Try.ntmps60, List.size_toArray, List.length_cons, List.length_nil, Nat.reduceAdd, Nat.reduceSub, Array.replicate_succ, Array.replicate_zero, List.push_toArray, List.append_toArray, List.nil_append, List.cons_append]
  have k1 := (hW.boxed b hR).cell
  have hl := Lib.hid h.1
  gi_wp2
  gi_loopw [7] (fun i wr => ∃ k : Nat, ∃ pre, k ≤ n ∧ i = .int .i64 k ∧ Keep RB W wr ∧ Hid (nums 0 xs = pre ++ nums k (xs.drop k)) ∧ J pre (fun _ => False) wr) (fun i _ => n - (intOf i).toNat)
  case atStart => exact ⟨0, [], Nat.zero_le _, rfl, Keep.refl _ _, rfl, h0⟩
  case round =>
    obtain ⟨k, pre, hk, rfl, hK, HX, hJr⟩ := hrel
    by_cases hlt : k < n
    · obtain ⟨bb, o, rfl, hb, hc⟩ := (h.keep (hW.trans hK) hq).at (by omega)
      obtain ⟨x, hx, hd⟩ := drop_getElem xs k (by rw [hl.out]; exact hlt)
      have hck := hc k x hx
      have HX2 := Lib.hid (show nums 0 xs = pre ++ (k, x) :: nums (k + 1) (xs.drop (k + 1)) by rw [HX.out, hd]; rfl)
      obtain ⟨fn, tmps, assign, body, hy, hRR⟩ := hY pre (k, x) _ (fun _ => False) (fun _ => False) #[.int .i64 k, .int .i64 x] wr HX2.out hJr (fun _ h => h.elim) ⟨rfl, rfl⟩ (fun _ h => h)
      clear HX hd hx hc hY h hb
      gi_wp2_with fail
      refine hRR.mono ?_
      rintro e W3 ⟨hk3, (⟨rfl, hJ3⟩ | ⟨rfl, hJx3⟩)⟩
      · gi_wp2
        go_roundw
        case rel => exact ⟨k + 1, pre ++ [(k, x)], by omega, by go_num, hK.trans (hk3.mono fun _ _ h => .inl h), Lib.hid (by rw [HX2.out]; simp), hJ _ _ _ _ _ hJ3 (Keep.refl _ _) (fun _ h => h.elim)⟩
        case measure => simp [intOf]; omega
      · gi_wp2
        refine bodyPost_ret (results_none rfl _ _ _) rfl ?_
        exact ⟨⟨_, rfl⟩, fun _ => False, fun _ h => h.elim, .inr ⟨pre ++ [(k, x)], _, by rw [HX2.out, List.append_assoc]; rfl, hJx _ _ _ _ _ hJx3 (Keep.refl _ _) (fun _ h => h.elim)⟩⟩
    · have HX2 := Lib.hid (show nums 0 xs = pre by rw [HX.out, List.drop_of_length_le (by rw [hl.out]; omega)]; unfold nums; simp)
      clear HX hY h
      gi_wp2
      refine bodyPost_end (results_none rfl _ _ _) rfl ?_
      exact ⟨⟨_, rfl⟩, fun _ => False, fun _ h => h.elim, .inl (by rw [HX2.out]; exact hJr)⟩

end Go.Proofs.Ythfclmnmnmeldaa
