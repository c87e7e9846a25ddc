/- Maps from numbers to values of whatever kind: look-up, store. Conditions: none. -/
import Derived.Test.YtkpcakmkmkidpaaRf
import Derived.MapKept
import Derived.Laws.IdiomRangeMap
namespace Go.Proofs.Ytkpcakmkmkidpaa.MapI
open Go.RowKit Go.MapKept
set_option linter.unusedVariables false

def keyV (k : Int) : Value := .int .i64 k
theorem keyV_inj {a b : Int} (h : keyV a = keyV b) : a = b := by
  unfold keyV at h
  cases h
  rfl
theorem key_is (k : Int) : IsKey (.int .i64) (keyV k) := rfl
/-- Entries that hold these keys with these values, in this order. -/
def Holds (es : Array MapEntry) (ks : List Int) (f : Int → Value) : Prop := es.toList.map (fun e => (e.key, e.val)) = ks.map fun k => (keyV k, f k)
theorem Holds.at {es : Array MapEntry} {ks : List Int} {f : Int → Value} (h : Holds es ks f) {j : Nat} {e : MapEntry} (he : es[j]? = some e) : ∃ k, ks[j]? = some k ∧ e.key = keyV k ∧ e.val = f k := by
  have h1 := congrArg (fun l => l[j]?) h
  simp only [List.getElem?_map, Array.getElem?_toList, he, Option.map_some] at h1
  cases hk : ks[j]? with
  | none => rw [hk] at h1; cases h1
  | some k =>
    rw [hk] at h1
    have h2 := Option.some.inj h1
    exact ⟨k, rfl, congrArg Prod.fst h2, congrArg Prod.snd h2⟩
theorem Holds.keys {es : Array MapEntry} {ks : List Int} {f : Int → Value} (h : Holds es ks f) : es.toList.map (·.key) = ks.map keyV := by
  have h1 := congrArg (List.map Prod.fst) h
  simpa [List.map_map, Function.comp_def] using h1
theorem Holds.size {es : Array MapEntry} {ks : List Int} {f : Int → Value} (h : Holds es ks f) : es.size = ks.length := by
  have h1 := congrArg List.length h
  simpa using h1
theorem Holds.isKey {es : Array MapEntry} {ks : List Int} {f : Int → Value} (h : Holds es ks f) : ∀ x ∈ es.toList, IsKey (.int .i64) x.key := fun x hx => by
  have h1 : x.key ∈ es.toList.map (·.key) := List.mem_map.2 ⟨x, hx, rfl⟩
  rw [h.keys] at h1
  obtain ⟨k, -, e⟩ := List.mem_map.1 h1
  rw [← e]; exact key_is k
theorem nodup_of_map {α β : Type} (f : α → β) : ∀ l : List α, (l.map f).Nodup → l.Nodup
  | [], _ => List.nodup_nil
  | x :: l, h => by
    rw [List.map_cons, List.nodup_cons] at h
    rw [List.nodup_cons]
    exact ⟨fun hx => h.1 (List.mem_map.2 ⟨x, hx, rfl⟩), nodup_of_map f l h.2⟩
theorem Holds.nodup {es : Array MapEntry} {clock : Nat} {ks : List Int} {f : Int → Value} (h : Holds es ks f) (hs : Stamped es clock) : ks.Nodup := by
  have h3 := hs.2.2
  rw [h.keys] at h3
  exact nodup_of_map keyV ks h3
/-- Block b is a map that holds these keys with these values. -/
def MapAt (w : World) (b : Nat) (ks : List Int) (f : Int → Value) : Prop := ∃ es clock, w.heap[b]? = some (.map es clock) ∧ Stamped es clock ∧ Holds es ks f
theorem MapAt.lt {w : World} {b : Nat} {ks : List Int} {f : Int → Value} (h : MapAt w b ks f) : b < w.heap.size := by
  obtain ⟨es, clock, hb, _⟩ := h
  exact (Array.getElem?_eq_some_iff.1 hb).1
theorem MapAt.nodup {w : World} {b : Nat} {ks : List Int} {f : Int → Value} (h : MapAt w b ks f) : ks.Nodup := by
  obtain ⟨es, clock, _, hs, hH⟩ := h
  exact hH.nodup hs
theorem MapAt.keep {w w' : World} {b : Nat} {ks : List Int} {f : Int → Value} {S : Nat → Prop} (h : MapAt w b ks f) (hk : Keep S w w') (hb : S b) : MapAt w' b ks f := by
  obtain ⟨es, clock, h1, h2, h3⟩ := h
  exact ⟨es, clock, hk.heap hb h1, h2, h3⟩
theorem MapAt.on {w w' : World} {b : Nat} {ks : List Int} {f : Int → Value} (h : MapAt w b ks f) (hb : Below w.heap.size w w') : MapAt w' b ks f := h.keep (Keep.of_below hb) h.lt
/-- Only the values at the keys count. -/
theorem MapAt.congr {w : World} {b : Nat} {ks : List Int} {f g : Int → Value} (h : MapAt w b ks f) (hg : ∀ k ∈ ks, f k = g k) : MapAt w b ks g := by
  obtain ⟨es, clock, h1, h2, h3⟩ := h
  refine ⟨es, clock, h1, h2, h3.trans (List.map_congr_left fun k hk => by rw [hg k hk])⟩
theorem MapAt.new (w : World) (f : Int → Value) : MapAt (w.alloc (.map #[] 0)) w.heap.size [] f := ⟨#[], 0, (MapKept.heap_alloc w _).1, stamped_empty 0, rfl⟩

theorem find_key {es : Array MapEntry} {ks : List Int} {f : Int → Value} (h : Holds es ks f) (k : Int) :
    (Instr.findNow (.int .i64) (keyV k) es.toList 0 = some none ∧ k ∉ ks ∧ ∀ x ∈ es.toList, x.key ≠ keyV k) ∨ ∃ j e, Instr.findNow (.int .i64) (keyV k) es.toList 0 = some (some (j, f k)) ∧ es[j]? = some e ∧ e.key = keyV k ∧ ks[j]? = some k := by
  rcases findNow_spec (key_is k) es.toList 0 h.isKey with ⟨h1, h2⟩ | ⟨j, e, h1, h2, h3⟩
  · refine .inl ⟨h1, fun hm => ?_, h2⟩
    have hx : keyV k ∈ es.toList.map (·.key) := by rw [h.keys]; exact List.mem_map.2 ⟨k, hm, rfl⟩
    obtain ⟨x, hx1, hx2⟩ := List.mem_map.1 hx
    exact h2 x hx1 hx2
  · have hj : es[j]? = some e := by simpa using h2
    obtain ⟨k', hk', e1, e2⟩ := h.at hj
    obtain rfl : k' = k := keyV_inj (e1.symm.trans h3)
    refine .inr ⟨j, e, ?_, hj, h3, hk'⟩
    rw [h1, e2, Nat.zero_add]

section
variable {P : Program} {w : World} {T K E : TypeId} {b : Nat} {ks : List Int} {f : Int → Value}
theorem look (h : MapAt w b ks f) (hT : P.underlying T = some (.map K E)) (hK : P.underlying K = some (.int .i64)) {z : Value} (hz : (zeroValue E).run P w = .ok z w) (k : Int) :
    (Instr.lookup T (.map (some b)) (keyV k) false).run P w = .ok (if k ∈ ks then f k else z) w := by
  obtain ⟨es, clock, hb, hs, hH⟩ := h
  rcases find_key hH k with ⟨h1, h2, _⟩ | ⟨j, e, h1, h2, h3, h4⟩
  · simp [Instr.lookup, run_underlying hT, MapKept.run_getObj_map hb, run_checkKey hK (key_is k), run_findKey hK h1, hz, h2, Result.andThen]
  · have hm : k ∈ ks := List.mem_of_getElem? h4
    simp [Instr.lookup, run_underlying hT, MapKept.run_getObj_map hb, run_checkKey hK (key_is k), run_findKey hK h1, hm, Result.andThen]
theorem look_nil (hT : P.underlying T = some (.map K E)) (hK : P.underlying K = some (.int .i64)) {z : Value} (hz : (zeroValue E).run P w = .ok z w) (k : Int) :
    (Instr.lookup T (.map none) (keyV k) false).run P w = .ok z w := by
  simp [Instr.lookup, run_underlying hT, run_checkKey hK (key_is k), run_findKey (l := []) hK (show Instr.findNow (.int .i64) (keyV k) [] 0 = some none from rfl), hz, Result.andThen]
theorem holds_put {es : Array MapEntry} {clock : Nat} (hH : Holds es ks f) (hs : Stamped es clock) {j : Nat} {k : Int} {e : MapEntry} (hj : es[j]? = some e) (hkj : ks[j]? = some k) (v : Value) :
    Holds (es.modify j fun e => { e with key := keyV k, val := v }) ks (fun x => if x = k then v else f x) := by
  have hnd := hH.nodup hs
  unfold Holds
  apply List.ext_getElem?
  intro i
  simp only [List.getElem?_map, Array.getElem?_toList, Array.getElem?_modify]
  by_cases hij : j = i
  · subst hij
    simp [hj, hkj]
  · simp only [hij, if_false]
    have h1 := congrArg (fun l => l[i]?) hH
    simp only [List.getElem?_map, Array.getElem?_toList] at h1
    rw [h1]
    cases hi : ks[i]? with
    | none => rfl
    | some x =>
      have hne : x ≠ k := fun e => by
        subst e
        obtain ⟨l1, m1⟩ := List.getElem?_eq_some_iff.1 hi
        obtain ⟨l2, m2⟩ := List.getElem?_eq_some_iff.1 hkj
        exact hij ((List.getElem_inj hnd).1 (m2.trans m1.symm))
      simp [hne]
theorem put (h : MapAt w b ks f) (hT : P.underlying T = some (.map K E)) (hK : P.underlying K = some (.int .i64)) (k : Int) (v : Value) :
    ∃ w', (Instr.mapUpdate T (.map (some b)) (keyV k) v).run P w = .ok () w' ∧ MapAt w' b (if k ∈ ks then ks else ks ++ [k]) (fun x => if x = k then v else f x) ∧ (∀ S : Nat → Prop, ¬ S b → Keep S w w') ∧ w'.heap.size = w.heap.size := by
  obtain ⟨es, clock, hb, hs, hH⟩ := h
  have hlt : b < w.heap.size := (Array.getElem?_eq_some_iff.1 hb).1
  have hkeep : ∀ o : Obj, ∀ S : Nat → Prop, ¬ S b → Keep S w { w with heap := w.heap.setIfInBounds b o } := fun o S hS =>
    ⟨rfl, rfl, rfl, by simp, fun i _ hi => (heap_set hb).2 i (fun e => hS (e ▸ hi))⟩
  rcases find_key hH k with ⟨h1, h2, h3⟩ | ⟨j, e, h1, h2, h3, h4⟩
  · refine ⟨{ w with heap := w.heap.setIfInBounds b (.map (es.push { key := keyV k, val := v, born := clock }) (clock + 1)) }, ?_, ⟨_, _, (heap_set hb).1, stamped_push hs h3, ?_⟩, hkeep _, by simp⟩
    · simp [Instr.mapUpdate, run_underlying hT, MapKept.run_getObj_map hb, run_checkKey hK (key_is k), run_findKey hK h1, MapKept.run_setObj_map _ hb, Result.andThen]
    · rw [if_neg h2]
      unfold Holds
      rw [Array.toList_push, List.map_append, List.map_append, hH]
      congr 1
      · refine List.map_congr_left fun x hx => ?_
        show (keyV x, f x) = (keyV x, if x = k then v else f x)
        have hxk : ¬ x = k := fun e => h2 (by rw [← e]; exact hx)
        rw [if_neg hxk]
      · simp
  · have hm : k ∈ ks := List.mem_of_getElem? h4
    have hkey : ∀ e', es[j]? = some e' → ({ e' with key := keyV k, val := v } : MapEntry).key = e'.key := fun e' he' => by rw [h2] at he'; cases he'; exact h3.symm
    refine ⟨{ w with heap := w.heap.setIfInBounds b (.map (es.modify j fun e => { e with key := keyV k, val := v }) clock) }, ?_, ⟨_, _, (heap_set hb).1, stamped_modify hs _ _ (fun _ _ => rfl) (fun e' _ he' => hkey e' he'), ?_⟩, hkeep _, by simp⟩
    · simp [Instr.mapUpdate, run_underlying hT, MapKept.run_getObj_map hb, run_checkKey hK (key_is k), run_findKey hK h1, h2, h3, run_keyThatStays (key_is k), MapKept.run_setObj_map _ hb, Result.andThen]
    · rw [if_pos hm]
      exact holds_put hH hs h2 h4 v

end
end Go.Proofs.Ytkpcakmkmkidpaa.MapI
