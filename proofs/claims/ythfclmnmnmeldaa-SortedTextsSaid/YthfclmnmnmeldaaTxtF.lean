/- package sorted at texts: Has; and the set of what is made of each value. Conditions: at most 2^40 values. -/
import Derived.Test.YthfclmnmnmeldaaTxtE
import Derived.Test.YthfclmnmnmeldaaOrd
import Derived.RecoverIn
namespace Go.Proofs.Ythfclmnmnmeldaa
open Go.RowKit Go.Shelf

/-- ordered at a row of one's own: it turns that row alone. -/
theorem ordered_own2 (base : Nat) (v : Value) (n : Nat) (zs : List Int) (w : World) (h : w.ownsRow base 3 1 v n (zs.map (Value.int .i64))) (_hbase : base ≤ w.heap.size) (hm : n ≤ 1099511627776) :
    Calls Try.prog 31 #[v] w fun e w' => ∃ q c, e = .returned (.agg #[.slice q (setI zs).length c]) ∧ SetIs (Value.int .i64) w' (.agg #[.slice q (setI zs).length c]) (setI zs) ∧ (∀ a, q = some a → base ≤ a.block ∧ v.ownBlock = some a.block) ∧ Keep (fun b => v.ownBlock ≠ some b) w w' := by
  by_cases hv : v = .slice none 0 0
  · subst hv
    have hl : zs = [] := by
      have h1 := h.1
      rcases h.2 with ⟨_, h2⟩ | ⟨g, cap, cur, h2, _⟩
      · simp [h2] at h1; exact h1
      · cases h2
    subst hl
    refine (ordered_none none 0 w (fun _ => rfl)).mono fun e w' ⟨he, hb⟩ => ?_
    rw [setI_nil]
    exact ⟨none, 0, he, ⟨_, _, _, rfl, Nat.le_refl _, Nat.zero_le _, SlIn.nil _ _ _, List.Pairwise.nil⟩, (by intro a h; cases h), (Keep.of_below hb).mono fun b h _ => h⟩
  · obtain ⟨g, cap, rfl, hb, hlt, hn, hcm, hl, hH⟩ := Lib.holds_of_ownsRow h hv
    subst hl
    refine (ordered_any g cap zs w hH hlt hn hm).mono fun e w' ⟨he, hs, hk⟩ => ⟨_, _, he, hs, by intro a h; cases h; exact ⟨hb, rfl⟩, hk.mono fun b _ h => by intro e; exact h (by simp [Value.ownBlock, e])⟩

end Go.Proofs.Ythfclmnmnmeldaa
namespace Go.Proofs.Ythfclmnmnmeldaa.S
open Go.RowKit Go.Shelf
attribute [local go_sem] Oper.semAt_some

/-- The first place of a rising list whose value is not less. -/
theorem bs_found (xs : List (List UInt8)) (x : List UInt8) (hr : Rises xs) (Sx : Nat → ByteArray) (h1 : ∀ t y, xs[t]? = some y → Sx t = ⟨y.toArray⟩) (h2 : ∀ t, xs.length ≤ t → Sx t = ⟨x.toArray⟩) :
    decide (Lib.bsGo (fun t => Op.bytesLess (Sx t).toList (⟨x.toArray⟩ : ByteArray).toList) xs.length 0 xs.length < xs.length ∧ Sx (Lib.bsGo (fun t => Op.bytesLess (Sx t).toList (⟨x.toArray⟩ : ByteArray).toList) xs.length 0 xs.length) = ⟨x.toArray⟩) = hasS xs x := by
  have key : ∀ t y, xs[t]? = some y → Op.bytesLess (Sx t).toList (⟨x.toArray⟩ : ByteArray).toList = decide (y < x) := fun t y h => by
    rw [h1 t y h, Go.Proofs.bytesLess_eq, mk_toList, mk_toList]
  have keyE : ∀ t, xs.length ≤ t → Op.bytesLess (Sx t).toList (⟨x.toArray⟩ : ByteArray).toList = false := fun t h => by
    rw [h2 t h, Go.Proofs.bytesLess_eq, mk_toList]; exact decide_eq_false (Lin.irr x)
  obtain ⟨k, hk, hlo, hhi⟩ : ∃ k, k ≤ xs.length ∧ (∀ t y, t < k → xs[t]? = some y → y < x) ∧ (∀ y, xs[k]? = some y → ¬ y < x) := by
    have : ∀ m, m ≤ xs.length → (∀ t y, t < m → xs[t]? = some y → y < x) ∨ ∃ k, k < m ∧ (∀ t y, t < k → xs[t]? = some y → y < x) ∧ (∀ y, xs[k]? = some y → ¬ y < x) := by
      intro m
      induction m with
      | zero => intro _; exact .inl fun t y h => by omega
      | succ m ih =>
        intro hm
        rcases ih (by omega) with h | ⟨k, hk, h⟩
        · have hx : xs[m]? = some xs[m] := List.getElem?_eq_getElem (by omega)
          by_cases hc : xs[m] < x
          · refine .inl fun t y ht hy => ?_
            by_cases e : t = m
            · subst e; rw [hx] at hy; cases hy; exact hc
            · exact h t y (by omega) hy
          · exact .inr ⟨m, by omega, h, fun y hy => by rw [hx] at hy; cases hy; exact hc⟩
        · exact .inr ⟨k, by omega, h⟩
    rcases this xs.length (Nat.le_refl _) with h | ⟨k, hk, h⟩
    · exact ⟨xs.length, Nat.le_refl _, h, fun y hy => by rw [List.getElem?_eq_none (Nat.le_refl _)] at hy; cases hy⟩
    · exact ⟨k, by omega, h⟩
  have hge : ∀ t y, k ≤ t → xs[t]? = some y → ¬ y < x := by
    intro t y ht hy
    by_cases e : t = k
    · subst e; exact hhi y hy
    · have htl := (List.getElem?_eq_some_iff.1 hy).1
      have hx : xs[k]? = some xs[k] := List.getElem?_eq_getElem (by omega)
      have hlt : xs[k] < y := by
        obtain ⟨_, rfl⟩ := List.getElem?_eq_some_iff.1 hy
        exact List.pairwise_iff_getElem.1 hr k t (by omega) htl (by omega)
      exact fun hyx => hhi _ hx (Lin.tr hlt hyx)
  rw [Lib.bsGo_spec _ k (fun t ht => by
      rw [key t xs[t] (List.getElem?_eq_getElem (by omega))]; exact decide_eq_true (hlo t _ ht (List.getElem?_eq_getElem (by omega))))
    (fun t ht => by
      by_cases hl : t < xs.length
      · rw [key t xs[t] (List.getElem?_eq_getElem hl)]; exact decide_eq_false (hge t _ ht (List.getElem?_eq_getElem hl))
      · exact keyE t (by omega)) xs.length 0 xs.length (by omega) (by omega) hk]
  unfold hasS
  rw [Bool.eq_iff_iff, decide_eq_true_iff, List.contains_iff_mem]
  constructor
  · rintro ⟨h, he⟩
    have hx : xs[k]? = some xs[k] := List.getElem?_eq_getElem h
    rw [h1 k _ hx] at he
    have : xs[k] = x := by have := congrArg (fun s : ByteArray => s.data.toList) he; simpa using this
    exact List.mem_of_getElem? (this ▸ hx)
  · intro hm
    obtain ⟨i, hi, hxi⟩ := List.getElem_of_mem hm
    have hx : xs[i]? = some x := by rw [List.getElem?_eq_getElem hi, hxi]
    have hki : k = i := by
      rcases Nat.lt_trichotomy k i with h | h | h
      · have hk' : xs[k]? = some xs[k] := List.getElem?_eq_getElem (by omega)
        have : xs[k] < xs[i] := List.pairwise_iff_getElem.1 hr k i (by omega) hi h
        rw [hxi] at this
        exact absurd this (hhi _ hk')
      · exact h
      · exact absurd (hlo i x h hx) (Lin.irr x)
    subst hki
    exact ⟨hi, h1 k x hx⟩

theorem Has_any (v : Value) (xs : List (List UInt8)) (x : List UInt8) (w : World) (h : SetIs encStr w v xs) :
    Calls Try.prog 28 #[v, .string ⟨x.toArray⟩] w fun e w' => e = .returned (.bool (hasS xs x)) ∧ Below w.heap.size w w' := by
  obtain ⟨q, n, c, rfl, _, hn, hs, hr⟩ := h
  have hl := hs.1
  have con : Calls Try.prog 41 #[.slice q n c, .string ⟨x.toArray⟩] (w.alloc (.cells #[.slice q n c] 43)) fun e w' => ∃ k : Nat, e = .returned (.tuple #[.int .i64 k, .bool (hasS xs x)]) ∧ Below w.heap.size w w' := by
    have hs2 := hs.alloc (.cells #[.slice q n c] 43)
    rcases Nat.eq_zero_or_pos n with h0 | h0
    · subst h0
      obtain rfl : xs = [] := List.eq_nil_of_length_eq_zero hl
      exact (search_none q c _ _).mono fun e w' ⟨he, hw⟩ => ⟨0, he, by rw [hw]; exact below_alloc _⟩
    · obtain ⟨b, o, rfl, hb, hc⟩ := hs2.at h0
      subst hl
      have hf := bs_found xs x hr (fun t => ⟨((xs[t]?).getD x).toArray⟩) (fun t y hy => by simp [hy]) (fun t ht => by simp [List.getElem?_eq_none ht])
      refine (search_any b o xs.length c (fun t => ⟨((xs[t]?).getD x).toArray⟩) ⟨x.toArray⟩ _ (by omega) (fun j hj => ?_)).mono ?_
      · have hx : xs[j]? = some xs[j] := List.getElem?_eq_getElem hj
        rw [hc j _ hx, hx]; rfl
      · rintro e w' ⟨he, k, hw⟩
        rw [hf] at he
        exact ⟨_, he, by rw [hw]; exact (below_alloc _).trans ⟨rfl, rfl, rfl, Nat.le_refl _, fun _ _ => rfl⟩⟩
  clear hs hr hl
  generalize hasS xs x = r at con ⊢
  generalize (⟨x.toArray⟩ : ByteArray) = s at con ⊢
  go_enter Try.func28, Try.ntmps28
  go_wp2_with fail
  refine con.mono ?_
  rintro e w' ⟨k, rfl, hb⟩
  go_wp2
  go_ret
  exact ⟨rfl, hb⟩

theorem len1_any (x : List UInt8) (w : World) (_hx : x.length ≤ 140737488355328) : Calls Try.prog 25 #[.string ⟨x.toArray⟩] w fun e w' => e = .returned (.int .i64 (x.length : Int)) ∧ w = w' := by
  obtain ⟨s, hs⟩ : ∃ s : ByteArray, (⟨x.toArray⟩ : ByteArray) = s := ⟨_, rfl⟩
  have hl : s.size = x.length := by rw [← hs]; simp [ByteArray.size]
  rw [hs]
  have HL := Lib.hid hl
  clear hs hl
  go_enter Try.func25, Try.ntmps25
  go_wp2
  go_ret
  exact ⟨(by rw [← HL.out]; try rfl), rfl⟩

/-- The deferred function: nothing panics, nothing is recovered. -/
theorem idle_any (w : World) (n : Nat) : CallsDIn Fence.wide n Try.prog 39 #[] .returning w fun e u' w' => e = .returned (.tuple #[]) ∧ u' = .returning ∧ w' = w := by
  refine callsDIn_of_wpSIn Try.func39 rfl trivial fun c₀ cs hu => ?_
  apply wpSIn_region
  simp [wpOpsSIn, go_sem, recoverD, hu, Try.ntmps39]
  cases c₀
  simp_all [bodyPostS, results, Try.f39]

end Go.Proofs.Ythfclmnmnmeldaa.S
