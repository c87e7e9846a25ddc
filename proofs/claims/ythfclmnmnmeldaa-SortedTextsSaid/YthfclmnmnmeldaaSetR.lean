/- The document's own answer Of: each value goes ahead of the first that is greater. Conditions: at most 2^39 values. -/
import Derived.Test.YthfclmnmnmeldaaSetQ
namespace Go.Proofs.Ythfclmnmnmeldaa
open Go.RowKit Go.Shelf

/-- The address of what goes on at place l. -/
def subA (q : Option Addr) (c l : Nat) : Option Addr := if c = l then q else q.map (·.add l)
def hdA (q : Option Addr) (c : Nat) : Option Addr := if c = 0 then q else q.map (·.add 0)
theorem subA_some (a : Addr) (c l : Nat) : ∃ a', subA (some a) c l = some a' ∧ a'.block = a.block := by
  unfold subA; split
  · exact ⟨a, rfl, rfl⟩
  · exact ⟨_, rfl, by simp [Addr.add]; try split <;> rfl⟩
theorem hdA_some (a : Addr) (c : Nat) : ∃ a', hdA (some a) c = some a' ∧ a'.block = a.block := by
  unfold hdA; split
  · exact ⟨a, rfl, rfl⟩
  · exact ⟨_, rfl, by simp [Addr.add]; try split <;> rfl⟩

theorem SlIn.take {α : Type} {enc : α → Value} {w : World} {q : Option Addr} {n c : Nat} {xs : List α} (h : SlIn enc w q n xs) (k : Nat) (hk : k ≤ n) (hnc : n ≤ c) : SlIn enc w (hdA q c) k (xs.take k) := by
  refine ⟨by have := h.1; simp; omega, fun hp => ?_⟩
  obtain ⟨b, o, rfl, hb, hc⟩ := h.at (by omega)
  refine ⟨b, o, ?_, hb, fun i x hx => ?_⟩
  · unfold hdA; rw [if_neg (by omega)]; simp [Addr.add]
  · rw [List.getElem?_take] at hx
    split at hx
    · exact hc i x hx
    · cases hx
theorem SlIn.drop {α : Type} {enc : α → Value} {w : World} {q : Option Addr} {n c : Nat} {xs : List α} (h : SlIn enc w q n xs) (k : Nat) (hk : k ≤ n) (hnc : n ≤ c) : SlIn enc w (subA q c k) (n - k) (xs.drop k) := by
  refine ⟨by have := h.1; simp; omega, fun hp => ?_⟩
  obtain ⟨b, o, rfl, hb, hc⟩ := h.at (by omega)
  refine ⟨b, o + k, ?_, hb, fun i x hx => ?_⟩
  · unfold subA; rw [if_neg (by omega)]
    by_cases h0 : k = 0
    · subst h0; simp [Addr.add]
    · simp [Addr.add, h0]
  · rw [List.getElem?_drop] at hx
    have := hc (k + i) x hx
    rwa [show o + (k + i) = o + k + i by omega] at this

theorem run_slice_head (q : Option Addr) (n c k : Nat) (W : World) (hk : k ≤ c) :
    (Instr.slice 22 (.slice q n c) none (some (.int .i64 (k : Int))) none).run Try.prog W = .ok (.slice (hdA q c) k c) W := by
  have hs : ∀ w, (Go.sizeOf 3).run Try.prog w = .ok 1 w := Try.sizeOf3
  have he : Try.prog.elem 22 = 3 := by kernel_rfl
  have h := run_slice_h (P := Try.prog) (w := W) 22 q n c (by rw [he]; exact Try.underlying22) .i64 k (by omega) (by omega)
  rw [h, he, hs]
  simp only [Result.andThen, sliced, hdA, Int.toNat_natCast, Nat.zero_mul, Nat.sub_zero]
theorem run_slice_rest (q : Option Addr) (n c k : Nat) (W : World) (hk : k ≤ n) :
    (Instr.slice 22 (.slice q n c) (some (.int .i64 (k : Int))) none none).run Try.prog W = .ok (.slice (subA q c k) (n - k) (c - k)) W := by
  have hs : ∀ w, (Go.sizeOf 3).run Try.prog w = .ok 1 w := Try.sizeOf3
  have he : Try.prog.elem 22 = 3 := by kernel_rfl
  have h := run_slice_l (P := Try.prog) (w := W) 22 q n c (by rw [he]; exact Try.underlying22) .i64 k (by omega) (by omega)
  rw [h, he, hs]
  simp only [Result.andThen, sliced, subA, Int.toNat_natCast, Nat.mul_one]

/-- A new value between those that are less and those that are greater. -/
theorem ins_rises (os : List Int) (x : Int) (j : Nat) (hr : Rises os) (hx : x ∉ os) (hlo : ∀ i y, i < j → os[i]? = some y → y < x) (hhi : ∀ y, os[j]? = some y → ¬ y < x) : Rises (os.take j ++ [x] ++ os.drop j) := by
  have hlo' : ∀ y ∈ os.take j, y < x := by
    intro y hy
    obtain ⟨i, hi, rfl⟩ := List.getElem_of_mem hy
    have hi' : i < j ∧ i < os.length := by simp at hi; omega
    exact hlo i _ hi'.1 (by rw [List.getElem_take]; exact List.getElem?_eq_getElem hi'.2)
  have hhi' : ∀ y ∈ os.drop j, x < y := by
    cases hd : os.drop j with
    | nil => intro y hy; cases hy
    | cons z zs =>
      have hz : os[j]? = some z := by
        have := congrArg (·[0]?) hd; simpa using this
      have hzx : x < z := by
        have h1 := hhi z hz
        have h2 : z ≠ x := fun h => hx (h ▸ List.mem_of_getElem? hz)
        omega
      have hrd : Rises (z :: zs) := by rw [← hd]; exact List.Pairwise.sublist (List.drop_sublist _ _) hr
      intro y hy
      rcases List.mem_cons.1 hy with rfl | hy
      · exact hzx
      · have := hrd.head y hy; omega
  have h1 : Rises (os.take j) := List.Pairwise.sublist (List.take_sublist _ _) hr
  have h2 : Rises (os.drop j) := List.Pairwise.sublist (List.drop_sublist _ _) hr
  unfold Rises
  rw [List.pairwise_append]
  refine ⟨List.pairwise_append.2 ⟨h1, by simp, fun a ha b hb => ?_⟩, h2, fun a ha b hb => ?_⟩
  · obtain rfl : b = x := by simpa using hb
    exact hlo' a ha
  · rcases List.mem_append.1 ha with ha | ha
    · have := hlo' a ha; have := hhi' b hb; omega
    · obtain rfl : a = x := by simpa using ha
      exact hhi' b hb
theorem ins_mem (os : List Int) (x : Int) (j : Nat) (a : Int) : a ∈ os.take j ++ [x] ++ os.drop j ↔ a ∈ os ∨ a = x := by
  conv => rhs; rw [← List.take_append_drop j os]
  simp only [List.mem_append, List.mem_singleton]
  constructor
  · rintro ((h | h) | h)
    · exact .inl (.inl h)
    · exact .inr h
    · exact .inl (.inr h)
  · rintro ((h | h) | h)
    · exact .inl (.inl h)
    · exact .inr h
    · exact .inl (.inr h)

/-- Between two rounds of Of. -/
def OfI (xs : List Int) (w : World) (k : Nat) (v : Value) (wr : World) : Prop :=
  ∃ (a : Addr) (os : List Int) (c : Nat), v = .slice (some a) os.length c ∧ os.length ≤ c ∧ SlIn (Value.int .i64) wr (some a) os.length os ∧ a.block < wr.heap.size ∧ os.length ≤ k ∧ Below w.heap.size w wr ∧ Rises os ∧ ∀ x, x ∈ os ↔ x ∈ xs.take k

set_option maxRecDepth 100000 in
set_option maxHeartbeats 4000000 in
theorem refOf_any (q : Option Addr) (n c : Nat) (xs : List Int) (w : World) (h : SlIn (Value.int .i64) w q n xs) (hm : n ≤ 549755813888) :
    Calls Try.prog 9 #[.slice q n c] w fun e w' => ∃ a c, e = .returned (.slice (some a) (setI xs).length c) ∧ SlIn (Value.int .i64) w' (some a) (setI xs).length (setI xs) ∧ Below w.heap.size w w' := by
  obtain ⟨i0, hi0, hz0, hz1, hz2⟩ := info_parts info_int
  have hl1 := Lib.hid h.1
  have hB0 := below_alloc (w := w) (.cells #[] 3)
  go_enter Try.func9, Try.ntmps9
  go_wp2
  go_loopw [3, 11] (fun v i wr => ∃ k : Nat, k ≤ n ∧ i = .int .i64 k ∧ OfI xs w k v wr) (fun _ i _ => n - (intOf i).toNat)
  case atStart => exact ⟨0, Nat.zero_le _, rfl, _, [], 0, rfl, Nat.le_refl _, SlIn.nil _ _ _, by simp, Nat.le_refl _, hB0, List.Pairwise.nil, by simp⟩
  case round =>
    obtain ⟨k, hk, rfl, a, os, co, rfl, hoc, hso, hab, hok, hbr, hro, hmo⟩ := hrel
    have hs1 := h.below hbr h.lt
    have hszr := hbr.size
    by_cases hlt : k < n
    · obtain ⟨bb, o, rfl, hbl, hc⟩ := hs1.at (by omega)
      obtain ⟨x, hx, _⟩ := drop_getElem xs k (by rw [hl1.out]; exact hlt)
      have hck := hc k x hx
      have con := In_any (some a) os.length co os x wr hso (by omega)
      have HT := Lib.hid (take_snoc xs k x hx)
      have HM := Lib.hid hmo
      clear hc hx hs1 hB0 hmo
      by_cases hin : hasL os x = true
      · have hxo : x ∈ os := by unfold hasL at hin; simpa using hin
        rw [hin] at con
        clear hin
        go_wp2_with fail
        refine con.mono ?_
        rintro e w' ⟨rfl, rfl⟩
        go_wp2
        go_roundw
        case rel =>
          refine ⟨k + 1, by omega, by go_num, a, os, co, rfl, hoc, hso, hab, by omega, hbr, hro, fun y => ?_⟩
          rw [HT.out, List.mem_append, ← HM.out]
          constructor
          · exact .inl
          · rintro (h | h)
            · exact h
            · obtain rfl : y = x := by simpa using h
              exact hxo
        case measure => simp [intOf]; omega
      · have hin' : hasL os x = false := by simpa using hin
        have hxo : x ∉ os := fun h => by unfold hasL at hin'; simp [h] at hin'
        rw [hin'] at con
        clear hin hin'
        go_wp2_with fail
        refine con.mono ?_
        rintro e w' ⟨rfl, rfl⟩
        go_wp2
        go_loop [6] (fun i => ∃ j : Nat, j ≤ os.length ∧ i = .int .i64 j ∧ Hid (∀ i y, i < j → os[i]? = some y → y < x)) (fun i => os.length - (intOf i).toNat)
        case atStart => exact ⟨0, Nat.zero_le _, rfl, Lib.hid (fun i y hi => by omega)⟩
        case round =>
          obtain ⟨j, hj, rfl, HJ⟩ := hrel
          by_cases hj2 : j < os.length
          · obtain ⟨ba, oa, hae, _, hca⟩ := hso.at (by omega)
            obtain ⟨y, hy, _⟩ := drop_getElem os j hj2
            have hcy := hca j y hy
            by_cases hyx : y < x
            · have d1 : decide (y < x) = true := by simpa using hyx
              have HJ2 := Lib.hid (show ∀ i z, i < j + 1 → os[i]? = some z → z < x from fun i z hi hz => by
                by_cases e : i = j
                · subst e; rw [hy] at hz; cases hz; exact hyx
                · exact HJ.out i z (by omega) hz)
              cases hae
              clear hca hy hyx HJ
              go_wp2
              go_round
              case rel => exact ⟨j + 1, by omega, by go_num, HJ2⟩
              case measure => simp [intOf]; omega
            · have d1 : decide (y < x) = false := by simpa using hyx
              have hhi : ∀ z, os[j]? = some z → ¬ z < x := fun z hz => by rw [hy] at hz; cases hz; exact hyx
              cases hae
              clear hca hy hyx
              have hlen : (os.take j).length = j := by simp; omega
              have hA := hso.take j hj hoc
              have hqA : hdA (some ⟨ba, oa, none⟩) co = none → co = 0 := fun h => by obtain ⟨a', h', _⟩ := hdA_some ⟨ba, oa, none⟩ co; rw [h'] at h; cases h
              have hqC : subA (some ⟨ba, oa, none⟩) co j = none → co - j = 0 := fun h => by obtain ⟨a', h', _⟩ := subA_some ⟨ba, oa, none⟩ co j; rw [h'] at h; cases h
              have hrh := fun W => run_slice_head (some ⟨ba, oa, none⟩) os.length co j W (by omega)
              have hrr := fun W => run_slice_rest (some ⟨ba, oa, none⟩) os.length co j W hj
              have HL := Lib.hid hlen
              have HRI := Lib.hid (ins_rises os x j hro hxo HJ.out hhi)
              have hSo : ∀ a', some (⟨ba, oa, none⟩ : Addr) = some a' → 0 < os.length → a'.block < wr.heap.size := fun a' h _ => by cases h; exact hab
              clear hlen hhi HJ hxo
              go_wp2_with (at_builtin; first
                | (refine wpList_append_row (enc := Value.int .i64) rfl _ _ 22 3 rfl i0 (.int .i64 0) 8 Try.underlying22 hi0 hz0 hz1 hz2 rfl (fun _ => rfl) (by decide) wr.heap.size (.slice (some ⟨wr.heap.size, 0, none⟩) 0 0) 0 [] rfl (World.ownsRow_made wr #[] 0 (Nat.le_refl _) (Nat.zero_le _) rfl) (hdA (some ⟨ba, oa, none⟩) co) j co (os.take j) rfl hqA (hA.alloc _) (by omega) (by simp) ?_; intro v1 w1 hown1 hgrow1; have k1 : Keep (fun b => b < wr.heap.size) wr w1 := (Keep.alloc _ wr _).trans (Keep.of_grownBy hgrow1 (fun r hr => by simp [Value.ownBlock] at hr; omega)); simp only [Nat.zero_add, List.nil_append] at hown1)
                | (refine wpList_append_own_at _ rfl _ _ 22 rfl wr.heap.size 3 i0 (.int .i64 0) 1 8 Try.underlying22 hi0 hz0 hz1 hz2 rfl (by decide) v1 j _ rfl (hown1.alloc _) ⟨w1.heap.size, 0, none⟩ 1 1 [.int .i64 x] rfl rfl (cell_one_new _ _ _) (by simp [Value.oneCell']) (by unfold maxLen; omega) (by omega) (by simp; have := k1.size; omega) ?_; intro v2 w2 hown2 hgrow2 _ _; have k2 : Keep (fun b => b < wr.heap.size) wr w2 := k1.trans ((Keep.alloc _ w1 _).trans (Keep.of_grownBy hgrow2 (fun r hr h => by have := (hown1.lt r hr).1; omega))))
                | (refine wpList_append_row (enc := Value.int .i64) rfl _ _ 22 3 rfl i0 (.int .i64 0) 8 Try.underlying22 hi0 hz0 hz1 hz2 rfl (fun _ => rfl) (by decide) wr.heap.size v2 (j + 1) _ rfl hown2 (subA (some ⟨ba, oa, none⟩) co j) (os.length - j) (co - j) (os.drop j) rfl hqC ((hso.keep k2 hSo).drop j hj hoc) (by omega) k2.size ?_; intro v3 w3 hown3 hgrow3; have k3 : Keep (fun b => b < wr.heap.size) wr w3 := k2.trans (Keep.of_grownBy hgrow3 (fun r hr h => by have := (hown2.lt r hr).1; omega))))
              have hb3 : Below w.heap.size w w3 := hbr.trans ((k3.mono fun b _ h => by omega).below hszr)
              have hown4 : w3.ownsRow wr.heap.size 3 1 v3 (os.take j ++ [x] ++ os.drop j).length ((os.take j ++ [x] ++ os.drop j).map (Value.int .i64)) := by
                have he : (os.take j ++ [x] ++ os.drop j).length = j + 1 + (os.length - j) := by simp [HL.out]; omega
                rw [he]; simpa [List.map_append] using hown3
              have hpos : (os.take j ++ [x] ++ os.drop j).length = (os.take j ++ os.drop j).length + 1 := by simp; omega
              have hown5 := hown4
              rw [hpos] at hown5
              obtain ⟨g5, c5, hv5⟩ := ownsRow_succ hown5
              rw [← hpos] at hv5
              clear hown5
              obtain ⟨q5, c6, he6, hc6, _, hs6, hb6⟩ := slIn_of_owns hown4
              rw [hv5] at he6
              cases he6
              clear hown1 hown2 hown3 hgrow1 hgrow2 hgrow3
              subst hv5
              go_roundw
              case rel =>
                refine ⟨k + 1, by omega, by go_num, _, _, _, rfl, hc6, hs6, (hb6 _ rfl).2.1, ?_, hb3, HRI.out, fun y => ?_⟩
                · simp; omega
                · rw [ins_mem, HT.out, List.mem_append, ← HM.out]; simp
              case measure => simp [intOf]; omega
          · have hhi : ∀ z, os[j]? = some z → ¬ z < x := fun z hz => by rw [List.getElem?_eq_none (by omega)] at hz; cases hz
            have hlen : (os.take j).length = j := by simp; omega
            have hA := hso.take j hj hoc
            have hqA : hdA (some a) co = none → co = 0 := fun h => by obtain ⟨a', h', _⟩ := hdA_some a co; rw [h'] at h; cases h
            have hqC : subA (some a) co j = none → co - j = 0 := fun h => by obtain ⟨a', h', _⟩ := subA_some a co j; rw [h'] at h; cases h
            have hrh := fun W => run_slice_head (some a) os.length co j W (by omega)
            have hrr := fun W => run_slice_rest (some a) os.length co j W hj
            have HL := Lib.hid hlen
            have HRI := Lib.hid (ins_rises os x j hro hxo HJ.out hhi)
            have hSo : ∀ a', some a = some a' → 0 < os.length → a'.block < wr.heap.size := fun a' h _ => by cases h; exact hab
            clear hlen hhi HJ hxo
            go_wp2_with (at_builtin; first
              | (refine wpList_append_row (enc := Value.int .i64) rfl _ _ 22 3 rfl i0 (.int .i64 0) 8 Try.underlying22 hi0 hz0 hz1 hz2 rfl (fun _ => rfl) (by decide) wr.heap.size (.slice (some ⟨wr.heap.size, 0, none⟩) 0 0) 0 [] rfl (World.ownsRow_made wr #[] 0 (Nat.le_refl _) (Nat.zero_le _) rfl) (hdA (some a) co) j co (os.take j) rfl hqA (hA.alloc _) (by omega) (by simp) ?_; intro v1 w1 hown1 hgrow1; have k1 : Keep (fun b => b < wr.heap.size) wr w1 := (Keep.alloc _ wr _).trans (Keep.of_grownBy hgrow1 (fun r hr => by simp [Value.ownBlock] at hr; omega)); simp only [Nat.zero_add, List.nil_append] at hown1)
              | (refine wpList_append_own_at _ rfl _ _ 22 rfl wr.heap.size 3 i0 (.int .i64 0) 1 8 Try.underlying22 hi0 hz0 hz1 hz2 rfl (by decide) v1 j _ rfl (hown1.alloc _) ⟨w1.heap.size, 0, none⟩ 1 1 [.int .i64 x] rfl rfl (cell_one_new _ _ _) (by simp [Value.oneCell']) (by unfold maxLen; omega) (by omega) (by simp; have := k1.size; omega) ?_; intro v2 w2 hown2 hgrow2 _ _; have k2 : Keep (fun b => b < wr.heap.size) wr w2 := k1.trans ((Keep.alloc _ w1 _).trans (Keep.of_grownBy hgrow2 (fun r hr h => by have := (hown1.lt r hr).1; omega))))
              | (refine wpList_append_row (enc := Value.int .i64) rfl _ _ 22 3 rfl i0 (.int .i64 0) 8 Try.underlying22 hi0 hz0 hz1 hz2 rfl (fun _ => rfl) (by decide) wr.heap.size v2 (j + 1) _ rfl hown2 (subA (some a) co j) (os.length - j) (co - j) (os.drop j) rfl hqC ((hso.keep k2 hSo).drop j hj hoc) (by omega) k2.size ?_; intro v3 w3 hown3 hgrow3; have k3 : Keep (fun b => b < wr.heap.size) wr w3 := k2.trans (Keep.of_grownBy hgrow3 (fun r hr h => by have := (hown2.lt r hr).1; omega))))
            have hb3 : Below w.heap.size w w3 := hbr.trans ((k3.mono fun b _ h => by omega).below hszr)
            have hown4 : w3.ownsRow wr.heap.size 3 1 v3 (os.take j ++ [x] ++ os.drop j).length ((os.take j ++ [x] ++ os.drop j).map (Value.int .i64)) := by
              have he : (os.take j ++ [x] ++ os.drop j).length = j + 1 + (os.length - j) := by simp [HL.out]; omega
              rw [he]; simpa [List.map_append] using hown3
            have hpos : (os.take j ++ [x] ++ os.drop j).length = (os.take j ++ os.drop j).length + 1 := by simp; omega
            have hown5 := hown4
            rw [hpos] at hown5
            obtain ⟨g5, c5, hv5⟩ := ownsRow_succ hown5
            rw [← hpos] at hv5
            clear hown5
            obtain ⟨q5, c6, he6, hc6, _, hs6, hb6⟩ := slIn_of_owns hown4
            rw [hv5] at he6
            cases he6
            clear hown1 hown2 hown3 hgrow1 hgrow2 hgrow3
            subst hv5
            go_roundw
            case rel =>
              refine ⟨k + 1, by omega, by go_num, _, _, _, rfl, hc6, hs6, (hb6 _ rfl).2.1, ?_, hb3, HRI.out, fun y => ?_⟩
              · simp; omega
              · rw [ins_mem, HT.out, List.mem_append, ← HM.out]; simp
            case measure => simp [intOf]; omega
    · obtain rfl : k = n := by omega
      have HE := Lib.hid (show os = setI xs from rises_ext hro (setI_rises xs) fun y => by rw [hmo, mem_setI, List.take_of_length_le (by rw [hl1.out]; omega)])
      clear hs1 hmo
      go_wp2
      go_ret
      exact ⟨a, co, by rw [← HE.out]; rfl, by rw [← HE.out]; exact hso, hbr⟩

end Go.Proofs.Ythfclmnmnmeldaa
