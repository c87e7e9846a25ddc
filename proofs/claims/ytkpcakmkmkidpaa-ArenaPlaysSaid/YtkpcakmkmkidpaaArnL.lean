/- Arenas in plain words: the program's slots beside the document's list, act by act. Conditions: none. -/
import Derived.Test.YtkpcakmkmkidpaaArnI
import Derived.Test.YtkpcakmkmkidpaaArnJ
namespace Go.Proofs.Ytkpcakmkmkidpaa.Arn
set_option linter.unusedVariables false

/-- All slots, those too that have not been made. -/
def pad (size : Nat) (sl : List (Sl Int)) : List (Sl Int) := sl ++ List.replicate (size - sl.length) ⟨0, none⟩
theorem pad_len {size : Nat} {sl : List (Sl Int)} (h : sl.length ≤ size) : (pad size sl).length = size := by
  unfold pad; rw [List.length_append, List.length_replicate]; omega
theorem pad_in {size : Nat} {sl : List (Sl Int)} {i : Nat} {s : Sl Int} (h : sl[i]? = some s) : (pad size sl)[i]? = some s := by
  unfold pad; rw [List.getElem?_append_left (List.getElem?_eq_some_iff.1 h).1]; exact h
theorem pad_out {size : Nat} {sl : List (Sl Int)} {i : Nat} (h1 : sl.length ≤ i) (h2 : i < size) : (pad size sl)[i]? = some ⟨0, none⟩ := by
  unfold pad; rw [List.getElem?_append_right h1, List.getElem?_replicate, if_pos (by omega)]
theorem pad_set {size : Nat} {sl : List (Sl Int)} {i : Nat} (s : Sl Int) (h : i < sl.length) : pad size (sl.set i s) = (pad size sl).set i s := by
  unfold pad; rw [List.length_set, List.set_append_left _ _ h]
theorem pad_more {size : Nat} {sl : List (Sl Int)} (s : Sl Int) (h : sl.length < size) : pad size (sl ++ [s]) = (pad size sl).set sl.length s := by
  unfold pad
  rw [List.set_append_right _ _ (Nat.le_refl _), Nat.sub_self, List.length_append, List.append_assoc]
  congr 1
  have : size - sl.length = (size - (sl.length + [s].length)) + 1 := by simp; omega
  rw [this, List.replicate_succ]
  rfl
theorem find_pad {size : Nat} {sl : List (Sl Int)} (hl : sl.length ≤ size) (hs : size ≤ 1024) (h : Int) : findS (pad size sl) h = findS sl h := by
  have key : ∀ i, findS (pad size sl) h = some i ↔ findS sl h = some i := fun i => by
    rw [find_is _ _ _ (by rw [pad_len hl]; omega), find_is _ _ _ (by omega)]
    constructor
    · rintro ⟨s, x, h1, h2, h3⟩
      rcases Nat.lt_or_ge i sl.length with hi | hi
      · exact ⟨s, x, by rw [← h1]; unfold pad; rw [List.getElem?_append_left hi], h2, h3⟩
      · have hi2 := (List.getElem?_eq_some_iff.1 h1).1
        rw [pad_len hl] at hi2
        rw [pad_out hi hi2] at h1
        cases h1
        cases h2
    · rintro ⟨s, x, h1, h2, h3⟩
      exact ⟨s, x, pad_in h1, h2, h3⟩
  cases h1 : findS sl h with
  | some i => exact (key i).2 h1
  | none =>
    cases h2 : findS (pad size sl) h with
    | none => rfl
    | some i => rw [(key i).1 h2] at h1; cases h1
theorem all_none : ∀ (n k : Nat), allS k (List.replicate n (⟨0, none⟩ : Sl Int)) = []
  | 0, k => rfl
  | n + 1, k => by rw [List.replicate_succ, allS, all_none n (k + 1)]; rfl
theorem all_pad (size : Nat) (sl : List (Sl Int)) : allS 0 (pad size sl) = allS 0 sl := by
  unfold pad
  rw [allS_app, all_none, List.append_nil]

/-- Behind at most m acts: both tell the same. -/
structure Both (size m : Nat) (sl : List (Sl Int)) (L : List (Th Int)) : Prop where
  rel : Rel (pad size sl) L
  len : sl.length ≤ size
  sz : size ≤ 1024
  slot : ∀ t ∈ L, t.slot < size
  many : L.length ≤ m
  num : ∀ t ∈ L, t.n ≤ m
  few : Few m sl
theorem Both.nil {size : Nat} (h : size ≤ 1024) : Both size 0 [] [] :=
  ⟨fun k s hk => by
    have hl := (List.getElem?_eq_some_iff.1 hk).1
    rw [pad_len (Nat.zero_le _)] at hl
    rw [pad_out (Nat.zero_le _) hl] at hk
    cases hk
    exact ⟨rfl, (fun j t ht => by simp [ofSlot] at ht), (fun j t ht => by simp [ofSlot] at ht), (fun x hx => by cases hx)⟩,
   Nat.zero_le _, h, (fun t ht => by cases ht), Nat.zero_le _, (fun t ht => by cases ht), (fun s hs => by cases hs)⟩
theorem Both.mono {size m m' : Nat} {sl : List (Sl Int)} {L : List (Th Int)} (h : Both size m sl L) (hm : m ≤ m') : Both size m' sl L :=
  ⟨h.rel, h.len, h.sz, h.slot, Nat.le_trans h.many hm, fun t ht => Nat.le_trans (h.num t ht) hm, fun s hs => Nat.le_trans (h.few s hs) hm⟩
theorem Both.small {size m : Nat} {sl : List (Sl Int)} {L : List (Th Int)} (h : Both size m sl L) (hm : m ≤ 1000000) : Small L :=
  ⟨by have := h.many; omega, fun t ht => ⟨by have := h.slot t ht; have := h.sz; omega, Nat.le_trans (h.num t ht) hm⟩⟩
theorem Both.all {size m : Nat} {sl : List (Sl Int)} {L : List (Th Int)} (h : Both size m sl L) : allL size L = allS 0 sl := by
  have := all_same h.rel
  rw [pad_len h.len, all_pad] at this
  exact this
theorem Both.full {size m : Nat} {sl : List (Sl Int)} {L : List (Th Int)} (h : Both size m sl L) {j : Nat} {s : Sl Int} (hj : (pad size sl)[j]? = some s) : fullR j L = s.x.isSome ∧ (ofSlot j L).length = s.n := runs_in (h.rel j s hj)
/-- Put. -/
theorem Both.put {size m : Nat} {sl : List (Sl Int)} {L : List (Th Int)} (h : Both size m sl L) (x : Int) :
    Both size (m + 1) (putL size sl x) (putRL size L x) ∧ putHd size sl = putRH size L ∧ ((freeR size L).isSome = true ∧ putE size sl = 0 ∨ (freeR size L).isSome = false ∧ putE size sl = 6) := by
  have put1 : ∀ (k : Nat) (s : Sl Int) (sl' : List (Sl Int)), freeR size L = some k → (pad size sl)[k]? = some s → s.x = none → sl'.length ≤ size → pad size sl' = (pad size sl).set k ⟨s.n + 1, some x⟩ → Few (m + 1) sl' → Both size (m + 1) sl' (putRL size L x) := by
    intro k s sl' hf hk hx hl hp hfew
    have hn := (h.full hk).2
    have e : putRL size L x = L ++ [⟨k, s.n + 1, x, false⟩] := by unfold putRL; rw [hf]; simp only; rw [hn]
    rw [e]
    have hks := (freeR_some size L k hf).1
    have hnm : s.n ≤ m := by rw [← hn]; exact Nat.le_trans (of_len L k) h.many
    refine ⟨by rw [hp]; exact rel_put h.rel hk hx x, hl, h.sz, fun t ht => ?_, by rw [List.length_append]; simp; exact h.many, fun t ht => ?_, hfew⟩
    · rcases List.mem_append.1 ht with ht | ht
      · exact h.slot t ht
      · obtain rfl := List.mem_singleton.1 ht
        exact hks
    · rcases List.mem_append.1 ht with ht | ht
      · exact Nat.le_succ_of_le (h.num t ht)
      · obtain rfl := List.mem_singleton.1 ht
        show s.n + 1 ≤ m + 1
        omega
  cases hfr : freeF sl with
  | some i =>
    obtain ⟨s, hs, hx⟩ := free_lt sl i hfr
    have hi := (List.getElem?_eq_some_iff.1 hs).1
    have hR : freeR size L = some i := freeR_at (by have := h.len; omega) (fun j hj => by
      obtain ⟨t, ht⟩ : ∃ t, sl[j]? = some t := ⟨_, List.getElem?_eq_getElem (by omega)⟩
      rw [(h.full (pad_in ht)).1]
      exact free_least sl i j t hfr hj ht) (by rw [(h.full (pad_in hs)).1, hx]; rfl)
    have e1 : putL size sl x = sl.set i ⟨s.n + 1, some x⟩ := by unfold putL; simp only [hfr, hs]
    refine ⟨?_, ?_, .inl ⟨by rw [hR]; rfl, by unfold putE; simp only [hfr]⟩⟩
    · rw [e1]
      refine put1 i s _ hR (pad_in hs) hx (by rw [List.length_set]; exact h.len) (pad_set _ hi) (fun t ht => ?_)
      rcases List.mem_or_eq_of_mem_set ht with h' | rfl
      · exact Nat.le_succ_of_le (h.few t h')
      · have := h.few s (List.mem_of_getElem? hs)
        show s.n + 1 ≤ m + 1
        omega
    · unfold putHd putRH
      simp only [hfr, hs, hR]
      rw [(h.full (pad_in hs)).2]
  | none =>
    have hall : ∀ j, j < sl.length → fullR j L = true := fun j hj => by
      obtain ⟨t, ht⟩ : ∃ t, sl[j]? = some t := ⟨_, List.getElem?_eq_getElem hj⟩
      rw [(h.full (pad_in ht)).1]
      exact free_none sl j t hfr ht
    by_cases hlt : sl.length < size
    · have hout : (pad size sl)[sl.length]? = some ⟨0, none⟩ := pad_out (Nat.le_refl _) hlt
      have hR : freeR size L = some sl.length := freeR_at hlt hall (by rw [(h.full hout).1]; rfl)
      have e1 : putL size sl x = sl ++ [⟨1, some x⟩] := by unfold putL; simp only [hfr, if_pos hlt]
      refine ⟨?_, ?_, .inl ⟨by rw [hR]; rfl, by unfold putE; simp only [hfr, if_pos hlt]⟩⟩
      · rw [e1]
        refine put1 sl.length ⟨0, none⟩ _ hR hout rfl (by rw [List.length_append]; simp; omega) (pad_more _ hlt) (fun t ht => ?_)
        rcases List.mem_append.1 ht with h' | h'
        · exact Nat.le_succ_of_le (h.few t h')
        · obtain rfl := List.mem_singleton.1 h'
          show 1 ≤ m + 1
          omega
      · unfold putHd putRH
        simp only [hfr, if_pos hlt, hR]
        rw [(h.full hout).2]
    · have hR : freeR size L = none := freeR_none size L fun j hj => hall j (by omega)
      refine ⟨?_, ?_, .inr ⟨by rw [hR]; rfl, by unfold putE; simp only [hfr, if_neg hlt]⟩⟩
      · have e1 : putL size sl x = sl := by unfold putL; simp only [hfr, if_neg hlt]
        have e2 : putRL size L x = L := by unfold putRL; simp only [hR]
        rw [e1, e2]
        exact h.mono (by omega)
      · unfold putHd putRH
        simp only [hfr, if_neg hlt, hR]
/-- Find: nowhere, or at one thing of both. -/
theorem Both.find {size m : Nat} {sl : List (Sl Int)} {L : List (Th Int)} (h : Both size m sl L) (hd : Int) :
    (findK L hd = -1 ∧ findS sl hd = none ∧ getX sl hd = none) ∨ ∃ (a i : Nat) (t : Th Int) (s : Sl Int), findK L hd = a ∧ findS sl hd = some i ∧ L[a]? = some t ∧ t.slot = i ∧ sl[i]? = some s ∧ s.x = some t.x ∧ t.n = s.n ∧ t.gone = false ∧ getX sl hd = some t.x := by
  obtain ⟨h1, h2⟩ := find_same h.rel (by rw [pad_len h.len]; exact h.sz) (fun t ht => by rw [pad_len h.len]; exact h.slot t ht) hd
  rw [find_pad h.len h.sz] at h1 h2
  cases hf : findS sl hd with
  | none =>
    rw [hf] at h1
    have hn : findL L hd = none := by cases hl : findL L hd with | none => rfl | some a => rw [hl] at h1; cases h1
    exact .inl ⟨by unfold findK; rw [hn], rfl, by unfold getX; rw [hf]⟩
  | some i =>
    rw [hf] at h1
    obtain ⟨a, ha⟩ : ∃ a, findL L hd = some a := Option.isSome_iff_exists.1 h1
    obtain ⟨t, s, g1, g2, g3, g4, g5, g6⟩ := h2 a i ha hf
    obtain ⟨s', x', q1, q2, -⟩ := (find_is sl hd i (by have := h.len; have := h.sz; omega)).1 hf
    rw [pad_in q1] at g3
    cases g3
    exact .inr ⟨a, i, t, s, by unfold findK; rw [ha], rfl, g1, g2, q1, g4, g5, g6, by unfold getX; simp only [hf, q1]; exact g4⟩
theorem modify_set {α : Type} (f : α → α) : ∀ (l : List α) (a : Nat) (t : α), l[a]? = some t → l.modify a f = l.set a (f t)
  | [], a, t, h => by simp at h
  | u :: r, 0, t, h => by
    obtain rfl : u = t := by simpa using h
    rfl
  | u :: r, a + 1, t, h => by rw [List.modify_succ_cons, List.set_cons_succ, modify_set f r a t (by simpa using h)]
theorem Both.chg {size m : Nat} {sl : List (Sl Int)} {L : List (Th Int)} (h : Both size m sl L) {a i : Nat} {t : Th Int} {s : Sl Int} (h1 : L[a]? = some t) (h2 : t.slot = i) (h3 : sl[i]? = some s) (h4 : t.gone = false) (y : Option Int) (t' : Th Int)
    (ht1 : t'.slot = t.slot ∧ t'.n = t.n) (ht2 : t'.gone = y.isNone) (ht3 : ∀ v, y = some v → t'.x = v) : Both size m (sl.set i ⟨s.n, y⟩) (L.set a t') := by
  have hi := (List.getElem?_eq_some_iff.1 h3).1
  have hm := List.mem_of_getElem? h1
  have e : L.set a t' = L.modify a fun u => ⟨u.slot, u.n, y.getD t'.x, y.isNone⟩ := by
    rw [modify_set _ L a t h1]
    congr 1
    obtain ⟨s1, n1, x1, g1⟩ := t'
    obtain ⟨rfl, rfl⟩ := ht1
    simp only at ht2 ht3 ⊢
    subst ht2
    cases y with
    | none => rfl
    | some v => rw [ht3 v rfl]; rfl
  have hr := rel_chg h.rel h1 h2 h4 (pad_in h3) y (fun u => ⟨u.slot, u.n, y.getD t'.x, y.isNone⟩) (fun u => ⟨rfl, rfl⟩) (fun u _ => rfl) (fun u v hv => by rw [hv]; rfl)
  refine ⟨by rw [pad_set _ hi, e]; exact hr, by rw [List.length_set]; exact h.len, h.sz, fun u hu => ?_, by rw [List.length_set]; exact h.many, fun u hu => ?_, fun u hu => ?_⟩
  · rcases List.mem_or_eq_of_mem_set hu with h' | rfl
    · exact h.slot u h'
    · rw [ht1.1]; exact h.slot t hm
  · rcases List.mem_or_eq_of_mem_set hu with h' | rfl
    · exact h.num u h'
    · rw [ht1.2]; exact h.num t hm
  · rcases List.mem_or_eq_of_mem_set hu with h' | rfl
    · exact h.few u h'
    · exact h.few s (List.mem_of_getElem? h3)
end Go.Proofs.Ytkpcakmkmkidpaa.Arn
