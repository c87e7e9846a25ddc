/- The texts that these laws rest on, put together, part 2. Conditions: as each says. -/
import Derived.Test.YtniehbjoogaccaaGreatDoorBaseA
import Derived.IntWalk
import Derived.Lib.SlBytesConst
import Derived.Lib.SmallJoins
import Derived.Sort.LotA
import Derived.Shelf.SlSortCmp.InsertionK
import Derived.Lib.IndexMore
namespace Go.Proofs.YtniehbjoogaccaaGreatDoor.Url
def httpS : List UInt8 := [104, 116, 116, 112]
def httpsS : List UInt8 := [104, 116, 116, 112, 115]
def ownP (s : List UInt8) : Nat := if s = httpS then 80 else if s = httpsS then 443 else 0
def sepL : List UInt8 → Option (List UInt8 × List UInt8)
  | [] => none
  | b :: r => match b, r with
    | 58, 47 :: 47 :: t => some ([], t)
    | b, r => (sepL r).map fun x => (b :: x.1, x.2)
structure U where
  scheme : List UInt8
  host : List UInt8
  port : Nat
  path : List UInt8
  query : List UInt8
  frag : List UInt8
  hq : Bool
  hf : Bool
def portL (s : List UInt8) : Option (List UInt8) → Option Nat
  | none => some (ownP s)
  | some l => (Ref.numOf 65535 l).bind fun n => if 1 ≤ n then some n.toNat else none
def optL : Option (List UInt8) → Option (List UInt8)
  | none => some []
  | some l => formL 2 l
def restU (s r : List UInt8) : Sum Int U :=
  let r1 := aheadL 35 r
  let r2 := aheadL 63 r1
  let a := aheadL 47 r2
  let h := aheadL 58 a
  if Host.parseE h ≠ 0 then .inl (Host.parseE h) else
  match portL s (Host.tailL 58 a), pathL (r2.drop a.length), optL (Host.tailL 63 r1), optL (Host.tailL 35 r) with
  | some n, some p, some q, some f => .inr ⟨s, Ref.lowL h, n, p, q, f, (Host.tailL 63 r1).isSome, (Host.tailL 35 r).isSome⟩
  | _, _, _, _ => .inl 2
def parseU (t : List UInt8) : Sum Int U :=
  if 4096 < t.length then .inl 3 else
  match sepL t with
  | none => .inl 15
  | some (s, r) => if Ref.lowL s = httpS ∨ Ref.lowL s = httpsS then restU (Ref.lowL s) r else .inl 15
def portT (u : U) : List UInt8 := if u.port = ownP u.scheme then [] else 58 :: digL u.port
def queryT (u : U) : List UInt8 := if u.hq then 63 :: u.query else []
def fragT (u : U) : List UInt8 := if u.hf then 35 :: u.frag else []
def textU (u : U) : List UInt8 := u.scheme ++ [58, 47, 47] ++ u.host ++ portT u ++ u.path ++ queryT u ++ fragT u
structure Ok (u : U) : Prop where
  scheme : u.scheme = httpS ∨ u.scheme = httpsS
  host : Host.parseE u.host = 0
  low : Ref.lowL u.host = u.host
  port1 : 1 ≤ u.port
  port2 : u.port ≤ 65535
  path : PathOk u.path
  query : formL 2 u.query = some u.query
  noq : u.hq = false → u.query = []
  frag : formL 2 u.frag = some u.frag
  nof : u.hf = false → u.frag = []
theorem own_pos (s : List UInt8) (h : s = httpS ∨ s = httpsS) : 1 ≤ ownP s ∧ ownP s ≤ 65535 := by
  rcases h with rfl | rfl <;> decide
theorem port_ok (s : List UInt8) (hs : s = httpS ∨ s = httpsS) (o : Option (List UInt8)) (n : Nat) (h : portL s o = some n) : 1 ≤ n ∧ n ≤ 65535 := by
  cases o with
  | none => rw [portL] at h; cases h; exact own_pos s hs
  | some l =>
    rw [portL] at h
    obtain ⟨m, hm, h⟩ := Option.bind_eq_some_iff.1 h
    split at h
    · cases h
      have hb : m ≤ 65535 := by
        unfold Ref.numOf at hm
        split at hm
        · cases hm
        · exact (Host.num_go 65535 _ _ _ hm).2.1 (by omega)
      omega
    · cases h
theorem opt_ok (o : Option (List UInt8)) (c : List UInt8) (h : optL o = some c) : formL 2 c = some c ∧ (o.isSome = false → c = []) := by
  cases o with
  | none => rw [optL] at h; cases h; exact ⟨rfl, fun _ => rfl⟩
  | some l => rw [optL] at h; exact ⟨form_twice 2 l c h, fun h => by cases h⟩
theorem rest_ok (s r : List UInt8) (u : U) (hs : s = httpS ∨ s = httpsS) (h : restU s r = .inr u) : Ok u := by
  unfold restU at h
  simp only at h
  split at h
  · cases h
  · rename_i hh
    have hh : Host.parseE (aheadL 58 (aheadL 47 (aheadL 63 (aheadL 35 r)))) = 0 := Decidable.not_not.1 hh
    split at h
    · rename_i n p q f hn hp hq hf
      cases h
      obtain ⟨h1, h2⟩ := port_ok s hs _ n hn
      obtain ⟨h3, h4⟩ := opt_ok _ q hq
      obtain ⟨h5, h6⟩ := opt_ok _ f hf
      exact ⟨hs, (Host.parse_low _).trans hh, Ref.lowL_lowL _, h1, h2, path_ok _ p hp, h3, h4, h5, h6⟩
    · cases h
theorem parse_ok (t : List UInt8) (u : U) (h : parseU t = .inr u) : Ok u := by
  unfold parseU at h
  split at h
  · cases h
  · split at h
    · cases h
    · split at h
      · rename_i hs; exact rest_ok _ _ u hs h
      · cases h
theorem host_bytes (h : List UInt8) (hp : Host.parseE h = 0) : ∀ b ∈ h, Host.hostByte b = true ∨ b = 46 := by
  intro b hb
  have hh : Host.hostB (Ref.splitL 46 h) = true := by
    unfold Host.parseE at hp
    split at hp
    · cases hp
    · split at hp
      · assumption
      · cases hp
  unfold Host.hostB at hh
  rw [Bool.and_eq_true, Bool.and_eq_true, List.all_eq_true] at hh
  rw [← Ref.join_split 46 h] at hb
  rcases join_mem 46 _ b hb with h1 | ⟨p, h1, h2⟩
  · exact .inr h1
  · have hpp := hh.1.2 p h1
    unfold Host.partB at hpp
    rw [Bool.and_eq_true, List.all_eq_true] at hpp
    exact .inl (hpp.2 b h2)
theorem host_no (h : List UInt8) (hp : Host.parseE h = 0) (d : UInt8) (h1 : Host.hostByte d = false) (h2 : d ≠ 46) : d ∉ h := fun hd => by
  rcases host_bytes h hp d hd with h | h
  · rw [h1] at h; cases h
  · exact h2 h
theorem sep_http (r : List UInt8) : sepL (httpS ++ [58, 47, 47] ++ r) = some (httpS, r) := rfl
theorem sep_https (r : List UInt8) : sepL (httpsS ++ [58, 47, 47] ++ r) = some (httpsS, r) := rfl
theorem port_no (u : U) (d : UInt8) (hd : Ref.decB d = false) (h : d ≠ 58) : d ∉ portT u := by
  unfold portT
  split
  · simp
  · intro hm
    rcases List.mem_cons.1 hm with hm | hm
    · exact h hm
    · rw [dig_dec _ d hm] at hd; cases hd
theorem text_rest (u : U) (h : Ok u) : restU u.scheme (u.host ++ portT u ++ u.path ++ queryT u ++ fragT u) = .inr u := by
  obtain ⟨hp63, hp35⟩ := path_no u.path h.path
  obtain ⟨R, hR, hpath, hRx⟩ := h.path
  have hq35 : 35 ∉ u.query := form_no 2 _ _ 35 h.query (by decide) (by decide) (.inl (by decide))
  have hh35 := host_no u.host h.host 35 (by decide) (by decide)
  have hh63 := host_no u.host h.host 63 (by decide) (by decide)
  have hh47 := host_no u.host h.host 47 (by decide) (by decide)
  have hh58 := host_no u.host h.host 58 (by decide) (by decide)
  have ho35 := port_no u 35 (by decide) (by decide)
  have ho63 := port_no u 63 (by decide) (by decide)
  have ho47 := port_no u 47 (by decide) (by decide)
  -- ahead of the fragment
  have c1 : aheadL 35 (u.host ++ portT u ++ u.path ++ queryT u ++ fragT u) = u.host ++ portT u ++ u.path ++ queryT u ∧ optL (Host.tailL 35 (u.host ++ portT u ++ u.path ++ queryT u ++ fragT u)) = some u.frag ∧
      (Host.tailL 35 (u.host ++ portT u ++ u.path ++ queryT u ++ fragT u)).isSome = u.hf := by
    have hn : 35 ∉ u.host ++ portT u ++ u.path ++ queryT u := by
      simp only [List.mem_append, not_or]
      refine ⟨⟨⟨hh35, ho35⟩, hp35⟩, ?_⟩
      unfold queryT
      split
      · simp only [List.mem_cons, not_or]; exact ⟨by decide, hq35⟩
      · simp
    cases hf : u.hf with
    | false =>
      have e : fragT u = [] := by unfold fragT; rw [hf]; rfl
      obtain ⟨h1, h2⟩ := ahead_no 35 _ hn
      rw [e, List.append_nil, h1, h2, h.nof hf]; exact ⟨rfl, rfl, rfl⟩
    | true =>
      have e : fragT u = 35 :: u.frag := by unfold fragT; rw [hf]; rfl
      obtain ⟨h1, h2⟩ := ahead_yes 35 _ u.frag hn
      rw [e, h1, h2]; exact ⟨rfl, h.frag, rfl⟩
  -- ahead of the query
  have c2 : aheadL 63 (u.host ++ portT u ++ u.path ++ queryT u) = u.host ++ portT u ++ u.path ∧ optL (Host.tailL 63 (u.host ++ portT u ++ u.path ++ queryT u)) = some u.query ∧
      (Host.tailL 63 (u.host ++ portT u ++ u.path ++ queryT u)).isSome = u.hq := by
    have hn : 63 ∉ u.host ++ portT u ++ u.path := by
      simp only [List.mem_append, not_or]
      exact ⟨⟨hh63, ho63⟩, hp63⟩
    cases hf : u.hq with
    | false =>
      have e : queryT u = [] := by unfold queryT; rw [hf]; rfl
      obtain ⟨h1, h2⟩ := ahead_no 63 _ hn
      rw [e, List.append_nil, h1, h2, h.noq hf]; exact ⟨rfl, rfl, rfl⟩
    | true =>
      have e : queryT u = 63 :: u.query := by unfold queryT; rw [hf]; rfl
      obtain ⟨h1, h2⟩ := ahead_yes 63 _ u.query hn
      rw [e, h1, h2]; exact ⟨rfl, h.query, rfl⟩
  -- ahead of the path
  have c3 : aheadL 47 (u.host ++ portT u ++ u.path) = u.host ++ portT u := by
    rw [hpath]
    exact (ahead_yes 47 (u.host ++ portT u) _ (by simp only [List.mem_append, not_or]; exact ⟨hh47, ho47⟩)).1
  have c4 : (u.host ++ portT u ++ u.path).drop (u.host ++ portT u).length = u.path := by simp
  -- the host and the port
  have c5 : aheadL 58 (u.host ++ portT u) = u.host ∧ portL u.scheme (Host.tailL 58 (u.host ++ portT u)) = some u.port := by
    by_cases ho : u.port = ownP u.scheme
    · have e : portT u = [] := by unfold portT; rw [if_pos ho]
      obtain ⟨h1, h2⟩ := ahead_no 58 _ hh58
      rw [e, List.append_nil, h1, h2, portL, ← ho]; exact ⟨rfl, rfl⟩
    · have e : portT u = 58 :: digL u.port := by unfold portT; rw [if_neg ho]
      obtain ⟨h1, h2⟩ := ahead_yes 58 _ (digL u.port) hh58
      have h3 : Ref.numOf 65535 (digL u.port) = some (u.port : Int) := dig_numOf 65535 u.port h.port1 h.port2
      have h4 := h.port1
      rw [e, h1, h2, portL, h3, Option.bind_some, if_pos (by omega)]
      exact ⟨rfl, by simp⟩
  unfold restU
  simp only
  rw [c1.1, c2.1, c3, c4, c5.1, c5.2, path_again u.path h.path, c2.2.1, c1.2.1, c2.2.2, c1.2.2, if_neg (by rw [h.host]; simp), h.low]
theorem parse_text (u : U) (h : Ok u) (hl : (textU u).length ≤ 4096) : parseU (textU u) = .inr u := by
  have e : textU u = u.scheme ++ [58, 47, 47] ++ (u.host ++ portT u ++ u.path ++ queryT u ++ fragT u) := by unfold textU; simp only [List.append_assoc]
  have hr := text_rest u h
  unfold parseU
  rw [if_neg (by omega), e]
  rcases h.scheme with hs | hs
  · have hlow : Ref.lowL httpS = httpS := by decide
    rw [hs] at hr ⊢
    rw [sep_http]
    simp only
    rw [hlow, if_pos (.inl rfl), hr]
  · have hlow : Ref.lowL httpsS = httpsS := by decide
    rw [hs] at hr ⊢
    rw [sep_https]
    simp only
    rw [hlow, if_pos (.inr rfl), hr]
def bareU (u : U) : U := { u with frag := [], hf := false }
def weightL : List (List UInt8) → Nat
  | [] => 0
  | p :: r => p.length + 1 + weightL r
theorem weight_app (x y : List (List UInt8)) : weightL (x ++ y) = weightL x + weightL y := by
  induction x with
  | nil => simp [weightL]
  | cons p r ih => rw [List.cons_append, weightL, weightL, ih]; omega
theorem weight_join (c : UInt8) : ∀ R : List (List UInt8), (Ref.joinL c R).length ≤ weightL R
  | [] => Nat.le_refl _
  | [p] => by simp [Ref.joinL, weightL]
  | p :: q :: r => by
    have ih := weight_join c (q :: r)
    show (p ++ c :: Ref.joinL c (q :: r)).length ≤ p.length + 1 + weightL (q :: r)
    rw [List.length_append, List.length_cons]; omega
theorem weight_drop (x : List (List UInt8)) : weightL x.dropLast ≤ weightL x := by
  by_cases h : x = []
  · subst h; exact Nat.le_refl _
  · have e := List.dropLast_concat_getLast h
    have : weightL x = weightL x.dropLast + weightL [x.getLast h] := by rw [← weight_app, e]
    omega
theorem weight_stack : ∀ (ps st : List (List UInt8)), weightL (stackL st ps) ≤ weightL st + weightL ps
  | [], st => by simp [stackL, weightL]
  | p :: r, st => by
    rw [stackL, weightL]
    have ih := weight_stack r (if p = [46] then st else if p = [46, 46] then st.dropLast else st ++ [p])
    have hs : weightL (if p = [46] then st else if p = [46, 46] then st.dropLast else st ++ [p]) ≤ weightL st + (p.length + 1) := by
      split
      · omega
      · split
        · have := weight_drop st; omega
        · rw [weight_app]; simp [weightL]
    omega
theorem weight_dots (ps : List (List UInt8)) : weightL (dotsL ps) ≤ weightL ps + 1 := by
  unfold dotsL
  rw [weight_app]
  have h1 := weight_stack ps []
  have h2 : weightL (if dotB (ps.getLastD []) = true then [[]] else []) ≤ 1 := by split <;> simp [weightL]
  simp only [weightL] at h1
  omega
theorem weight_forms : ∀ (ps cs : List (List UInt8)), formsL ps = some cs → weightL cs ≤ 3 * weightL ps
  | [], cs, h => by rw [formsL] at h; cases h; exact Nat.le_refl _
  | p :: r, cs, h => by
    rw [formsL] at h
    obtain ⟨d, hd, h⟩ := Option.bind_eq_some_iff.1 h
    obtain ⟨ds, hds, rfl⟩ := Option.map_eq_some_iff.1 h
    have h1 := form_len 1 p d hd
    have h2 := weight_forms r ds hds
    rw [weightL, weightL]; omega
theorem weight_onto (x : List UInt8) (l : List (List UInt8)) (h : l ≠ []) : weightL (Ref.onto x l) = x.length + weightL l := by
  cases l with
  | nil => exact absurd rfl h
  | cons p r => simp only [Ref.onto, weightL, List.length_append]; omega
theorem weight_split (c : UInt8) : ∀ l : List UInt8, weightL (Ref.splitL c l) = l.length + 1
  | [] => rfl
  | b :: r => by
    have ih := weight_split c r
    by_cases h : b = c
    · subst h; rw [Ref.split_is, weightL, ih, List.length_cons, List.length_nil]; omega
    · rw [Ref.split_not c b r h, weight_onto _ _ (Ref.split_ne c r), ih, List.length_cons]; simp; omega
theorem path_len (l p : List UInt8) (h : pathL l = some p) : p.length ≤ 3 * l.length + 2 := by
  cases l with
  | nil => rw [pathL] at h; cases h; simp
  | cons b r =>
    rw [pathL] at h
    obtain ⟨cs, hcs, rfl⟩ := Option.map_eq_some_iff.1 h
    have h1 := weight_join 47 (dotsL cs)
    have h2 := weight_dots cs
    have h3 := weight_forms _ _ hcs
    have h4 := weight_split 47 r
    rw [List.length_cons, List.length_cons]; omega
theorem ahead_len (c : UInt8) (l : List UInt8) : (aheadL c l).length ≤ l.length := by
  unfold aheadL; exact (List.takeWhile_sublist _).length_le
theorem ahead_tail (c : UInt8) : ∀ l : List UInt8, (aheadL c l).length + ((Host.tailL c l).map (fun x => x.length + 1)).getD 0 = l.length
  | [] => rfl
  | b :: r => by
    have ih := ahead_tail c r
    by_cases h : b = c
    · have e1 : aheadL c (b :: r) = [] := by unfold aheadL; rw [List.takeWhile_cons, if_neg (by simp [h])]
      have e2 : Host.tailL c (b :: r) = some r := by unfold Host.tailL; rw [if_pos h]
      rw [e1, e2]; simp
    · have e1 : aheadL c (b :: r) = b :: aheadL c r := by unfold aheadL; rw [List.takeWhile_cons, if_pos (by simpa using h)]
      have e2 : Host.tailL c (b :: r) = Host.tailL c r := by conv => lhs; unfold Host.tailL; rw [if_neg h]
      rw [e1, e2, List.length_cons, List.length_cons]; omega
theorem opt_len (o : Option (List UInt8)) (c : List UInt8) (h : optL o = some c) : c.length + (if o.isSome = true then 1 else 0) ≤ 3 * (o.map (fun x => x.length + 1)).getD 0 := by
  cases o with
  | none => rw [optL] at h; cases h; simp
  | some l =>
    rw [optL] at h
    have := form_len 2 l c h
    simp only [Option.isSome_some, if_true, Option.map_some, Option.getD_some]; omega
theorem dig_len : ∀ n : Nat, n ≤ 65535 → (digL n).length ≤ 5 := by
  have step : ∀ n, ¬ n < 10 → (digL n).length = (digL (n / 10)).length + 1 := fun n h => by rw [dig_big n h, List.length_append]; rfl
  have small : ∀ n, n < 10 → (digL n).length = 1 := fun n h => by rw [dig_small n h]; rfl
  intro n h
  by_cases h1 : n < 10
  · rw [small n h1]; omega
  · rw [step n h1]
    by_cases h2 : n / 10 < 10
    · rw [small _ h2]; omega
    · rw [step _ h2]
      by_cases h3 : n / 10 / 10 < 10
      · rw [small _ h3]; omega
      · rw [step _ h3]
        by_cases h4 : n / 10 / 10 / 10 < 10
        · rw [small _ h4]; omega
        · rw [step _ h4, small _ (by omega)]; omega
theorem sep_len : ∀ (t s r : List UInt8), sepL t = some (s, r) → r.length ≤ t.length
  | [], s, r, h => by cases h
  | b :: t, s, r, h => by
    unfold sepL at h
    split at h
    · cases h; simp; omega
    · obtain ⟨x, hx, he⟩ := Option.map_eq_some_iff.1 h
      cases he
      have := sep_len t x.1 x.2 hx
      rw [List.length_cons]; omega
theorem text_len (t : List UInt8) (u : U) (h : parseU t = .inr u) : (textU u).length ≤ 3 * t.length + 18 := by
  have hok := parse_ok t u h
  unfold parseU at h
  split at h
  · cases h
  · split at h
    · cases h
    · rename_i s r hsep
      split at h
      · have hr := sep_len t s r hsep
        unfold restU at h
        simp only at h
        split at h
        · cases h
        · split at h
          · rename_i n p q f hn hp hq hf
            cases h
            have hs : (Ref.lowL s).length ≤ 5 := by
              rcases hok.scheme with e | e <;> (have e' : Ref.lowL s = _ := e; rw [e']; decide)
            have h1 := ahead_tail 35 r
            have h2 := ahead_tail 63 (aheadL 35 r)
            have h3 := ahead_len 47 (aheadL 63 (aheadL 35 r))
            have h4 := ahead_len 58 (aheadL 47 (aheadL 63 (aheadL 35 r)))
            have h5 := path_len _ p hp
            have h6 := opt_len _ q hq
            have h7 := opt_len _ f hf
            have h8 := dig_len n hok.port2
            rw [List.length_drop] at h5
            have hpo : (portT ⟨Ref.lowL s, Ref.lowL (aheadL 58 (aheadL 47 (aheadL 63 (aheadL 35 r)))), n, p, q, f, (Host.tailL 63 (aheadL 35 r)).isSome, (Host.tailL 35 r).isSome⟩).length ≤ 6 := by
              unfold portT
              split
              · simp
              · rw [List.length_cons]; exact Nat.succ_le_succ h8
            have hqo : ∀ (o : Option (List UInt8)), (if o.isSome = true then 63 :: q else ([] : List UInt8)).length ≤ q.length + (if o.isSome = true then 1 else 0) := fun o => by cases o <;> simp
            have hfo : ∀ (o : Option (List UInt8)), (if o.isSome = true then 35 :: f else ([] : List UInt8)).length ≤ f.length + (if o.isSome = true then 1 else 0) := fun o => by cases o <;> simp
            have hq1 := hqo (Host.tailL 63 (aheadL 35 r))
            have hf1 := hfo (Host.tailL 35 r)
            have hl := Ref.lowL_length (aheadL 58 (aheadL 47 (aheadL 63 (aheadL 35 r))))
            unfold textU queryT fragT
            simp only [List.length_append, List.length_cons, List.length_nil]
            rw [hl]
            omega
          · cases h
      · cases h
end Go.Proofs.YtniehbjoogaccaaGreatDoor.Url
namespace Go.Proofs.YtniehbjoogaccaaGreatDoor.Pct
open Go.RowKit Go.Shelf
theorem bytes_lt {w : World} {q : Option Addr} {n : Nat} {xs : List Int} (h : Lib.BytesIn w q n xs) : ∀ a, q = some a → 0 < n → a.block < w.heap.size := fun a ha h0 => by
  obtain ⟨b, o, rfl, hc⟩ := h.at h0
  cases ha
  exact World.block_lt_of_cell? w _ (hc 0 h0)
end Go.Proofs.YtniehbjoogaccaaGreatDoor.Pct
namespace Go.Proofs.YtniehbjoogaccaaGreatDoor
open Go.RowKit Go.Shelf
theorem below_alloc {w : World} (o : Obj) : Below w.heap.size w (w.alloc o) := (Below.refl _ w).alloc (Nat.le_refl _) o
end Go.Proofs.YtniehbjoogaccaaGreatDoor
namespace Go.Proofs.YtniehbjoogaccaaGreatDoor
open Go.RowKit Go.Shelf
attribute [local go_sem] Oper.semAt_some
def RowArg (x : List UInt8) (args : Array Value) (G : Nat → Prop) (W : World) : Prop :=
  ∃ v, args = #[v] ∧ W.ownsRow 0 5 1 v x.length ((Lib.numsL x).map (Value.int .u8)) ∧ G = fun b => v.ownBlock = some b
theorem row_base {W : World} {base base' : Nat} {e : TypeId} {size : Nat} {v : Value} {n : Nat} {xs : List Value} (h : W.ownsRow base e size v n xs) (hb : base' ≤ base) : W.ownsRow base' e size v n xs := by
  refine ⟨h.1, ?_⟩
  rcases h.2 with hn | ⟨g, cap, cur, rfl, hbg, rest⟩
  · exact .inl hn
  · exact .inr ⟨g, cap, cur, rfl, by omega, rest⟩
theorem row_open {W : World} {base n : Nat} {v : Value} {l : List UInt8} (h : W.ownsRow base 5 1 v n ((Lib.numsL l).map (Value.int .u8))) :
    ∃ q c, v = .slice q n c ∧ l.length = n ∧ n ≤ c ∧ c ≤ maxLen ∧ Lib.BytesIn W q n (Lib.numsL l) ∧ (∀ a, q = some a → a.block < W.heap.size ∧ base ≤ a.block ∧ v.ownBlock = some a.block) := by
  have hl : l.length = n := by have := h.1; simpa [Lib.numsL] using this
  rcases h.2 with ⟨rfl, rfl⟩ | ⟨g, cap, cur, rfl, hb, hg, h1, h2, h3, h4⟩
  · exact ⟨none, 0, rfl, hl, Nat.le_refl _, Nat.zero_le _, Lib.BytesIn.nil _ _ _, by intro a ha; cases ha⟩
  · refine ⟨some ⟨g, 0, none⟩, cap, rfl, hl, h1, h2, fun h0 => ⟨g, 0, rfl, fun i hi => ?_⟩, fun a ha => by cases ha; exact ⟨(Array.getElem?_eq_some_iff.1 hg).1, hb, rfl⟩⟩
    have hcur : cur[i]? = some (.int .u8 ((Lib.numsL l).getD i 0)) := by
      have : (cur.toList.take (n * 1))[i]? = some (.int .u8 ((Lib.numsL l).getD i 0)) := by
        rw [h4]
        have hi' : i < (Lib.numsL l).length := by rw [Lib.numsL_length]; omega
        simp [List.getElem?_map, List.getElem?_eq_getElem hi', List.getD]
      rw [List.getElem?_take, if_pos (by omega)] at this
      simpa using this
    simp only [World.cell?, hg, Nat.zero_add]
    exact hcur
def RowPost {β : Type} (J Jx : List β → (Nat → Prop) → World → Prop) (pre : List β) (RB Q : Nat → Prop) (W2 : World) (ok : Bool) (W' : World) : Prop :=
  Keep (fun b => RB b ∨ Q b) W2 W' ∧ ∃ Q' : Nat → Prop, (∀ b, Q b → Q' b) ∧ (∀ b, Q' b → b < W'.heap.size) ∧ ((ok = true ∧ J pre Q' W') ∨ (ok = false ∧ Jx pre Q' W'))
theorem yield_arg {P : Program} {l' : Nat} {β : Type} {Arg : β → Array Value → (Nat → Prop) → World → Prop} {J Jx : List β → (Nat → Prop) → World → Prop} {ys : List β} {RB : Nat → Prop} (hJ : Abide J) (hY : Rounds P l' Arg ys RB J Jx)
    {pre : List β} {y : β} {rest : List β} (hys : ys = pre ++ y :: rest) {Q : Nat → Prop} {W2 w4 : World} {v4 : Value} {args : Array Value} (hj : J pre Q W2) (hQ : ∀ b, Q b → b < W2.heap.size)
    (hb : Below W2.heap.size W2 w4) (hG : ∀ b, v4.ownBlock = some b → W2.heap.size ≤ b ∧ b < w4.heap.size) (hA : Arg y args (fun b => v4.ownBlock = some b) w4) :
    YieldAt Fence.wide 0 P l' args w4 fun e W' => ∃ ok : Bool, e = .returned (.bool ok) ∧ RowPost J Jx (pre ++ [y]) RB Q W2 ok W' := by
  have hs := hb.size
  refine (hY pre y rest (fun b => Q b ∨ (W2.heap.size ≤ b ∧ b < w4.heap.size)) (fun b => v4.ownBlock = some b) args w4 hys ?_ ?_ hA (fun b h => .inr (hG b h))).mono ?_
  · exact hJ _ _ _ _ _ hj ((Keep.of_below hb).mono fun b h _ => h) fun b h => ⟨h.imp id And.left, h.elim (fun h => Nat.lt_of_lt_of_le (hQ b h) hs) And.right⟩
  · exact fun b h => h.elim (fun h => Nat.lt_of_lt_of_le (hQ b h) hs) And.right
  · rintro e W' ⟨hk, h⟩
    have hkk : Keep (fun b => RB b ∨ Q b) W2 W' := ((Keep.of_below hb).mono fun b h _ => h).trans (hk.mono fun b hlt h => h.imp id fun h => ⟨.inl h, fun hg => by have := hG b hg; have := hQ b h; omega⟩)
    have hq1 : ∀ b, Q b → (Q b ∨ (W2.heap.size ≤ b ∧ b < w4.heap.size)) ∧ ¬ v4.ownBlock = some b := fun b h => ⟨.inl h, fun hg => by have := hG b hg; have := hQ b h; omega⟩
    have hq2 : ∀ b, ((Q b ∨ (W2.heap.size ≤ b ∧ b < w4.heap.size)) ∧ ¬ v4.ownBlock = some b) → b < W'.heap.size := fun b h => Nat.lt_of_lt_of_le (h.1.elim (fun h => Nat.lt_of_lt_of_le (hQ b h) hs) And.right) hk.size
    rcases h with ⟨rfl, h⟩ | ⟨rfl, h⟩
    · exact ⟨true, rfl, hkk, _, hq1, hq2, .inl ⟨rfl, h⟩⟩
    · exact ⟨false, rfl, hkk, _, hq1, hq2, .inr ⟨rfl, h⟩⟩
theorem yield_row {P : Program} {l' : Nat} {J Jx : List (List UInt8) → (Nat → Prop) → World → Prop} {ys : List (List UInt8)} {RB : Nat → Prop} (hJ : Abide J) (hY : Rounds P l' RowArg ys RB J Jx)
    {pre : List (List UInt8)} {y : List UInt8} {rest : List (List UInt8)} (hys : ys = pre ++ y :: rest) {Q : Nat → Prop} {W2 w4 : World} {v4 : Value} {n : Nat} (hj : J pre Q W2) (hQ : ∀ b, Q b → b < W2.heap.size)
    (hb : Below W2.heap.size W2 w4) (hn : y.length = n) (hrow : w4.ownsRow W2.heap.size 5 1 v4 n ((Lib.numsL y).map (Value.int .u8))) :
    YieldAt Fence.wide 0 P l' #[v4] w4 fun e W' => ∃ ok : Bool, e = .returned (.bool ok) ∧ RowPost J Jx (pre ++ [y]) RB Q W2 ok W' := by
  subst hn
  exact yield_arg hJ hY hys hj hQ hb (fun b h => hrow.lt b h) ⟨v4, rfl, row_base hrow (Nat.zero_le _), rfl⟩
theorem bytes_take {w : World} {q : Option Addr} {n k : Nat} {l : List UInt8} (h : Lib.BytesIn w q n (Lib.numsL l)) (hl : l.length = n) (hk : k ≤ n) : Lib.BytesIn w q k (Lib.numsL (l.take k)) := fun h0 => by
  obtain ⟨b, o, rfl, hc⟩ := h.at (by omega)
  refine ⟨b, o, rfl, fun i hi => ?_⟩
  rw [hc i (by omega), numsL_getD _ _ (by omega), numsL_getD _ _ (by simp; omega)]
  simp [List.getD, hi]
theorem bytes_keep {S : Nat → Prop} {w w' : World} {q : Option Addr} {n : Nat} {xs : List Int} (h : Lib.BytesIn w q n xs) (hk : Keep S w w') (hq : ∀ a, q = some a → 0 < n → S a.block) : Lib.BytesIn w' q n xs := fun h0 => by
  obtain ⟨b, o, rfl, hc⟩ := h.at h0
  exact ⟨b, o, rfl, fun i hi => (World.cell?_of_block (hk.block b (World.block_lt_of_cell? w _ (hc i hi)) (hq _ rfl h0))).trans (hc i hi)⟩
theorem bytes_lt {w : World} {q : Option Addr} {n : Nat} {xs : List Int} (h : Lib.BytesIn w q n xs) : ∀ a, q = some a → 0 < n → a.block < w.heap.size := fun a ha h0 => by
  obtain ⟨b, o, rfl, hc⟩ := h.at h0
  cases ha
  exact World.block_lt_of_cell? w _ (hc 0 h0)
end Go.Proofs.YtniehbjoogaccaaGreatDoor
namespace Go.Proofs.YtniehbjoogaccaaGreatDoor.Org
open Url
set_option linter.unusedVariables false
def placeU (u : U) : List UInt8 := u.scheme ++ [58, 47, 47] ++ u.host ++ portT u
def rootU (u : U) : U := { u with path := [47], query := [], frag := [], hq := false, hf := false }
theorem root_ok (u : U) (h : Ok u) : Ok (rootU u) :=
  ⟨h.scheme, h.host, h.low, h.port1, h.port2, path_ok [] [47] rfl, rfl, fun _ => rfl, rfl, fun _ => rfl⟩
theorem root_text (u : U) : textU (rootU u) = placeU u ++ [47] := by
  have h1 : portT (rootU u) = portT u := rfl
  have h2 : queryT (rootU u) = [] := rfl
  have h3 : fragT (rootU u) = [] := rfl
  unfold textU
  rw [h1, h2, h3, List.append_nil, List.append_nil]; rfl
theorem root_len (u : U) (h : Ok u) : (textU (rootU u)).length ≤ (textU u).length := by
  obtain ⟨R, hR, hp, hx⟩ := h.path
  rw [root_text]
  unfold textU placeU
  rw [hp]
  simp only [List.length_append, List.length_cons, List.length_nil]
  omega
theorem place_inj (u v : U) (hu : Ok u) (hv : Ok v) (lu : (textU u).length ≤ 4096) (lv : (textU v).length ≤ 4096) (h : placeU u = placeU v) : u.scheme = v.scheme ∧ u.host = v.host ∧ u.port = v.port := by
  have e : textU (rootU u) = textU (rootU v) := by rw [root_text, root_text, h]
  have pu := parse_text (rootU u) (root_ok u hu) (Nat.le_trans (root_len u hu) lu)
  have pv := parse_text (rootU v) (root_ok v hv) (Nat.le_trans (root_len v hv) lv)
  rw [e] at pu
  have e2 : rootU u = rootU v := Sum.inr.inj (pu.symm.trans pv)
  exact ⟨congrArg (·.scheme) e2, congrArg (·.host) e2, congrArg (·.port) e2⟩
end Go.Proofs.YtniehbjoogaccaaGreatDoor.Org
namespace Go.Proofs.YtniehbjoogaccaaGreatDoor
open Go.RowKit Go.Shelf
attribute [local go_sem] Oper.semAt_some
theorem spansGo_from (p : UInt8 → Bool) : ∀ (l : List UInt8) (i f : Nat), f ≤ i → ∀ x ∈ spansGo p l i f, f ≤ x.1 ∧ x.1 ≤ x.2 ∧ x.2 ≤ i + l.length
  | [], i, f, h, x, hx => by
    simp [spansGo] at hx; subst hx; simp; exact h
  | b :: r, i, f, h, x, hx => by
    unfold spansGo at hx
    split at hx
    · rcases List.mem_cons.1 hx with rfl | hx
      · simp; omega
      · have := spansGo_from p r (i + 1) (i + 1) (Nat.le_refl _) x hx
        simp only [List.length_cons]; omega
    · have := spansGo_from p r (i + 1) f (by omega) x hx
      simp only [List.length_cons]; omega
theorem spansL_bounds (p : UInt8 → Bool) (l : List UInt8) (x : Nat × Nat) (h : x ∈ spansL p l) : x.1 ≤ x.2 ∧ x.2 ≤ l.length := by
  have := spansGo_from p l 0 0 (Nat.le_refl _) x h
  omega
end Go.Proofs.YtniehbjoogaccaaGreatDoor
namespace Go.Proofs.YtniehbjoogaccaaGreatDoor.Pct
open Go.RowKit Go.Shelf
theorem wide_fn (f : FuncId) : Fence.wide.fn f = True := rfl
attribute [local go_sem] Oper.semAt_some wide_fn
def ItArg (x : UInt8 × Bool) (args : Array Value) (G : Nat → Prop) (_W : World) : Prop := args = #[.int .u8 (x.1.toNat : Int), .bool x.2] ∧ G = fun _ => False
theorem Keep.drewN (S : Nat → Prop) (w : World) (k : Nat) : Keep S w (w.drewN k) := ⟨rfl, rfl, rfl, Nat.le_refl _, fun _ _ _ => rfl⟩
theorem uponIn_yield {P : Program} {o : Oper} {a : Act} {K : Act → World → Prop} {Q : Exit → Act → World → Prop} {l : Nat} {args : Array Value} {W : World} {R : Ending → World → Prop} (h : YieldAt Fence.wide 0 P l args W R)
    (hk : ∀ v w, R (.returned v) w → K (a.put o.dst v) w) (hp : ∀ c w, ¬ R (.panicked c) w) (ho : ∀ w, ¬ R .outgrown w) : Oper.uponIn Fence.wide 1 P o a K Q ((Instr.yield l args).run P W) := by
  obtain ⟨fn, tmps, assign, body, hy, hR⟩ := h
  rw [hy]
  simp only [Oper.uponIn]
  refine ⟨fun _ => Nat.le_refl _, RoundIn.mono hR fun e w' hr => ?_⟩
  cases e with
  | returned v => exact hk v w' hr
  | panicked c => exact (hp c w' hr).elim
  | outgrown => exact (ho w' hr).elim
theorem bytes_keep {S : Nat → Prop} {w w' : World} {q : Option Addr} {n : Nat} {xs : List Int} (h : Lib.BytesIn w q n xs) (hk : Keep S w w') (hq : ∀ a, q = some a → 0 < n → S a.block) : Lib.BytesIn w' q n xs := fun h0 => by
  obtain ⟨b, o, rfl, hc⟩ := h.at h0
  have hlt := World.block_lt_of_cell? w _ (hc 0 h0)
  have hb := hk.block b hlt (hq _ rfl h0)
  exact ⟨b, o, rfl, fun i hi => by rw [← hc i hi]; simp only [World.cell?, hb]⟩
theorem meant_any (q : Option Addr) (n c : Nat) (w : World) :
    Calls Tryz.prog 137 #[.slice q n c] w fun e w' => e = .returned (.func (.func 176) #[] #[.pointer (some ⟨w.heap.size, 0, none⟩)]) ∧ w' = w.alloc (.cells #[.slice q n c] 29) := by
  go_enter Tryz.func137, Tryz.ntmps137
  go_wp2
  go_ret
  exact ⟨rfl, rfl⟩
theorem worth_lt' (x : UInt8) (h : hexB x = true) : (worth x).toNat < 16 := by
  have h' : ∀ i : Fin 256, hexB (UInt8.ofNat i.1) = true → (worth (UInt8.ofNat i.1)).toNat < 16 := by decide +kernel
  have h1 := h' ⟨x.toNat, u8_lt x⟩
  rw [UInt8.ofNat_toNat] at h1
  exact h1 h
theorem or_nat : ∀ u v : Fin 16, bits BinOp.or IntKind.u8 ((u.1 : Int) * 16 % 256) (v.1 : Int) = ((((UInt8.ofNat u.1) <<< 4) ||| (UInt8.ofNat v.1)).toNat : Int) := by decide +kernel
theorem or_pair (x y : UInt8) (hx : hexB x = true) (hy : hexB y = true) : bits BinOp.or IntKind.u8 (((worth x).toNat : Int) * 16 % 256) ((worth y).toNat : Int) = ((pairV x y).toNat : Int) := by
  have h := or_nat ⟨(worth x).toNat, worth_lt' x hx⟩ ⟨(worth y).toNat, worth_lt' y hy⟩
  simp only [UInt8.ofNat_toNat] at h
  exact h
theorem worth_same (b : UInt8) (w : World) (hx : hexB b = true) :
    Calls Tryz.prog 177 #[.int .u8 (b.toNat : Int)] w fun e w' => e = .returned (.int .u8 ((worth b).toNat : Int)) ∧ w' = w :=
  (worth_any b w hx).mono fun _ _ ⟨h1, h2⟩ => ⟨h1, h2.symm⟩
set_option maxRecDepth 100000 in
set_option maxHeartbeats 4000000 in
theorem meant1_iter (B : Nat) (q : Option Addr) (n c : Nat) (bs : List UInt8) (m : List (UInt8 × Bool)) (RB : Nat → Prop) (w0 : World) (hx : bs.length = n) (hn : n ≤ 140737488355328) (hm : itemsL bs = some m)
    (h : Lib.BytesIn w0 q n (Lib.numsL bs)) (hq : ∀ a, q = some a → 0 < n → RB a.block) (b : Boxed w0 B 29 (.slice q n c)) (hR : RB B) :
    IterC Tryz.prog 176 #[.pointer (some ⟨B, 0, none⟩)] ItArg m RB w0 := by
  intro l J Jx W hW hJ hJx hY h0
  refine (callsIn_wide (n := 1)).1 ?_
  refine callsIn_of_wp Tryz.func176 rfl trivial ?_ rfl
  simp only [Tryz.ntmps176, List.size_toArray, List.length_cons, List.length_nil, Nat.reduceAdd, Nat.reduceSub, Array.replicate_succ, Array.replicate_zero, List.push_toArray, List.append_toArray, List.nil_append, List.cons_append]
  have hl := Lib.hid hx
  have HM := Lib.hid hm
  clear hx hm
  gi_wp2
  gi_loopw [3] (fun i wr => ∃ k : Nat, ∃ pre rest : List (UInt8 × Bool), k ≤ n ∧ i = .int .i64 k ∧ Keep RB W wr ∧ Hid (m = pre ++ rest) ∧ Hid (itemsL (bs.drop k) = some rest) ∧ J pre (fun _ => False) wr) (fun i _ => n - (intOf i).toNat)
  case atStart => exact ⟨0, [], m, Nat.zero_le _, rfl, Keep.refl _ _, rfl, HM.out, h0⟩
  case round =>
    obtain ⟨k, pre, rest, hk, rfl, hK, HX, HI, hJr⟩ := hrel
    have k1 := ((hW.trans hK).boxed b hR).cell
    by_cases hlt : k < n
    · obtain ⟨bb, o, hqe, hc⟩ := (bytes_keep h (hW.trans hK) hq).at (by omega)
      subst hqe
      have hck : wr.cell? ⟨bb, o + k, none⟩ = some (.int .u8 ((bs.getD k 0).toNat : Int)) := by
        rw [← numsL_getD bs k (by rw [hl.out]; exact hlt)]; exact hc k hlt
      rcases items_step bs k rest (by rw [hl.out]; exact hlt) HI.out with ⟨hne, m', hr, hi⟩ | ⟨heq, hk2, hx1, hx2, m', hr, hi⟩
      · generalize bs.getD k 0 = x at *
        have e1 : ((x.toNat : Int) == 37) = false := by
          rw [beq_eq_false_iff_ne]; intro h; exact hne (UInt8.toNat_inj.1 (by have : (37 : UInt8).toNat = 37 := rfl; omega))
        have HX2 := Lib.hid (show m = pre ++ (x, false) :: m' by rw [HX.out, hr])
        have HI2 := Lib.hid hi
        clear HX hr hi hc hne HI h HM
        gi_wp2_with (gi_quiet (fail))
        refine uponIn_yield (hY pre (x, false) _ (fun _ => False) (fun _ => False) #[.int .u8 (x.toNat : Int), .bool false] _ HX2.out (hJ _ _ _ _ _ hJr (Keep.drewN _ _ _) (fun _ h => h.elim)) (fun _ h => h.elim) ⟨rfl, rfl⟩ (fun _ h => h)) ?_ ?_ ?_
        rotate_left
        · rintro c w ⟨_, ⟨h, _⟩ | ⟨h, _⟩⟩ <;> cases h
        · rintro w ⟨_, ⟨h, _⟩ | ⟨h, _⟩⟩ <;> cases h
        clear hY
        rintro v W3 ⟨hk3, (⟨he, hJ3⟩ | ⟨he, hJx3⟩)⟩
        all_goals cases he
        · have hK3 : Keep RB wr W3 := (Keep.drewN RB wr _).trans (hk3.mono fun _ _ h => .inl h)
          gi_wp2
          go_roundw
          case rel => exact ⟨k + 1, pre ++ [(x, false)], m', by omega, by go_num, hK.trans hK3, Lib.hid (by rw [HX2.out]; simp), HI2, hJ _ _ _ _ _ hJ3 (Keep.refl _ _) (fun _ h => h.elim)⟩
          case measure => simp [intOf]; omega
        · gi_wp2
          refine bodyPost_ret (results_none rfl _ _ _) rfl ?_
          exact ⟨⟨_, rfl⟩, fun _ => False, fun _ h => h.elim, .inr ⟨pre ++ [(x, false)], _, by rw [HX2.out, List.append_assoc]; rfl, hJx _ _ _ _ _ hJx3 (Keep.refl _ _) (fun _ h => h.elim)⟩⟩
      · have hk2' : k + 2 < n := by have := hl.out; omega
        have hc1 : wr.cell? ⟨bb, o + (k + 1), none⟩ = some (.int .u8 ((bs.getD (k + 1) 0).toNat : Int)) := by
          rw [← numsL_getD bs (k + 1) (by omega)]; exact hc (k + 1) (by omega)
        have hc2 : wr.cell? ⟨bb, o + (k + 2), none⟩ = some (.int .u8 ((bs.getD (k + 2) 0).toNat : Int)) := by
          rw [← numsL_getD bs (k + 2) (by omega)]; exact hc (k + 2) hk2'
        rw [heq] at hck
        generalize bs.getD (k + 1) 0 = x at *
        generalize bs.getD (k + 2) 0 = y at *
        have HX2 := Lib.hid (show m = pre ++ (pairV x y, true) :: m' by rw [HX.out, hr])
        have HI2 := Lib.hid hi
        clear HX hr hi hc HI h heq hk2 HM
        have s1 : IntKind.i64.wrap ((k : Int) + 1) = (k : Int) + 1 := IntWalk.i64_in _ (by omega)
        have s2 : IntKind.i64.wrap ((k : Int) + 2) = (k : Int) + 2 := IntWalk.i64_in _ (by omega)
        have p1 : (0 : Int) ≤ (k : Int) + 1 := by omega
        have p2 : (0 : Int) ≤ (k : Int) + 2 := by omega
        have q1 : (k : Int) + 1 < (n : Int) := by omega
        have q2 : (k : Int) + 2 < (n : Int) := by omega
        have t1 : ((k : Int) + 1).toNat = k + 1 := by omega
        have t2 : ((k : Int) + 2).toNat = k + 2 := by omega
        gi_wp2_with (gi_quiet (fail))
        refine wpIn_region_quiet_lit rfl (by kernel_rfl) (by kernel_rfl) ?_
        repeat (gi_big_quiet_step (fail))
        refine wpQuietIn_step (fun _ _ _ _ => trivial) (fun K hK => ?_)
        go_simp
        refine ⟨.int .u8 ((worth x).toNat : Int), fun a => (callsIn_wide.2 (worth_same x _ hx1)).mono ?_, ?_⟩
        · rintro e w2 ⟨rfl, rfl⟩; exact ⟨rfl, a, rfl⟩
        refine hK _ ?_
        clear hK K
        repeat (gi_big_quiet_step (fail))
        refine wpQuietIn_step (fun _ _ _ _ => trivial) (fun K hK => ?_)
        go_simp
        refine ⟨.int .u8 ((worth y).toNat : Int), fun a => (callsIn_wide.2 (worth_same y _ hx2)).mono ?_, ?_⟩
        · rintro e w2 ⟨rfl, rfl⟩; exact ⟨rfl, a, rfl⟩
        refine hK _ ?_
        clear hK K
        repeat (gi_big_quiet_step (fail))
        refine wpQuietIn_nil ?_
        rintro w' ⟨nq2, rfl⟩
        rw [or_pair x y hx1 hx2]
        have hdd : ∀ j, Keep RB wr (wr.drewN j) := fun j => Keep.drewN RB wr j
        have hjj : ∀ j, J pre (fun _ => False) (wr.drewN j) := fun j => hJ _ _ _ _ _ hJr (Keep.drewN _ _ j) (fun _ h => h.elim)
        generalize pairV x y = pv at *
        have hpv := u8_lt pv
        clear hx1 hx2 hc1 hc2 hck k1 s1 p1 q1 t1 p2 q2 t2
        gi_wp2
        refine uponIn_yield (hY pre (pv, true) _ (fun _ => False) (fun _ => False) #[.int .u8 (pv.toNat : Int), .bool true] _ HX2.out (hjj _) (fun _ h => h.elim) ⟨rfl, rfl⟩ (fun _ h => h)) ?_ ?_ ?_
        rotate_left
        · rintro c w ⟨_, ⟨h, _⟩ | ⟨h, _⟩⟩ <;> cases h
        · rintro w ⟨_, ⟨h, _⟩ | ⟨h, _⟩⟩ <;> cases h
        clear hY
        rintro v W3 ⟨hk3, (⟨he, hJ3⟩ | ⟨he, hJx3⟩)⟩
        all_goals cases he
        · have hK3 : Keep RB wr W3 := (hdd _).trans (hk3.mono fun _ _ h => .inl h)
          gi_wp2
          go_roundw
          case rel => exact ⟨k + 3, pre ++ [(pv, true)], m', by omega, by go_num, hK.trans hK3, Lib.hid (by rw [HX2.out]; simp), HI2, hJ _ _ _ _ _ hJ3 (Keep.refl _ _) (fun _ h => h.elim)⟩
          case measure => simp [intOf]; omega
        · gi_wp2
          refine bodyPost_ret (results_none rfl _ _ _) rfl ?_
          exact ⟨⟨_, rfl⟩, fun _ => False, fun _ h => h.elim, .inr ⟨pre ++ [(pv, true)], _, by rw [HX2.out, List.append_assoc]; rfl, hJx _ _ _ _ _ hJx3 (Keep.refl _ _) (fun _ h => h.elim)⟩⟩
    · have HX2 := Lib.hid (show m = pre by
        have h1 := HI.out
        rw [List.drop_of_length_le (by rw [hl.out]; omega), items_nil] at h1
        cases h1
        rw [HX.out, List.append_nil])
      clear HX HI h hY HM
      gi_wp2
      refine bodyPost_end (results_none rfl _ _ _) rfl ?_
      exact ⟨⟨_, rfl⟩, fun _ => False, fun _ h => h.elim, .inl (by rw [HX2.out]; exact hJr)⟩
end Go.Proofs.YtniehbjoogaccaaGreatDoor.Pct
namespace Go.Proofs.YtniehbjoogaccaaGreatDoor.Ref
open Go.RowKit Go.Shelf
theorem parse_big (t : List UInt8) (h : 253 < t.length) : Host.parseE t = 3 := by unfold Host.parseE; rw [if_pos h]
theorem parse_host (t : List UInt8) (h : ¬ 253 < t.length) (hh : Host.hostB (splitL 46 t) = true) : Host.parseE t = 0 := by unfold Host.parseE; rw [if_neg h, if_pos hh]
theorem parse_none (t : List UInt8) (h : ¬ 253 < t.length) (hh : Host.hostB (splitL 46 t) = false) : Host.parseE t = 2 := by unfold Host.parseE; rw [if_neg h, if_neg (by rw [hh]; simp)]
end Go.Proofs.YtniehbjoogaccaaGreatDoor.Ref
namespace Go.Proofs.YtniehbjoogaccaaGreatDoor.Yld
open Go.RowKit Go.Shelf
set_option linter.unusedVariables false
theorem yield_argG {P : Program} {l' : Nat} {β : Type} {Arg : β → Array Value → (Nat → Prop) → World → Prop} {J Jx : List β → (Nat → Prop) → World → Prop} {ys : List β} {RB : Nat → Prop} (hJ : Abide J) (hY : Rounds P l' Arg ys RB J Jx)
    {pre : List β} {y : β} {rest : List β} (hys : ys = pre ++ y :: rest) {Q G : Nat → Prop} {W2 w4 : World} {args : Array Value} (hj : J pre Q W2) (hQ : ∀ b, Q b → b < W2.heap.size)
    (hb : Below W2.heap.size W2 w4) (hG : ∀ b, G b → W2.heap.size ≤ b ∧ b < w4.heap.size) (hA : Arg y args G w4) :
    YieldAt Fence.wide 0 P l' args w4 fun e W' => ∃ ok : Bool, e = .returned (.bool ok) ∧ RowPost J Jx (pre ++ [y]) RB Q W2 ok W' := by
  have hs := hb.size
  refine (hY pre y rest (fun b => Q b ∨ (W2.heap.size ≤ b ∧ b < w4.heap.size)) G args w4 hys ?_ ?_ hA (fun b h => .inr (hG b h))).mono ?_
  · exact hJ _ _ _ _ _ hj ((Keep.of_below hb).mono fun b h _ => h) fun b h => ⟨h.imp id And.left, h.elim (fun h => Nat.lt_of_lt_of_le (hQ b h) hs) And.right⟩
  · exact fun b h => h.elim (fun h => Nat.lt_of_lt_of_le (hQ b h) hs) And.right
  · rintro e W' ⟨hk, h⟩
    have hkk : Keep (fun b => RB b ∨ Q b) W2 W' := ((Keep.of_below hb).mono fun b h _ => h).trans (hk.mono fun b hlt h => h.imp id fun h => ⟨.inl h, fun hg => by have := hG b hg; have := hQ b h; omega⟩)
    have hq1 : ∀ b, Q b → (Q b ∨ (W2.heap.size ≤ b ∧ b < w4.heap.size)) ∧ ¬ G b := fun b h => ⟨.inl h, fun hg => by have := hG b hg; have := hQ b h; omega⟩
    have hq2 : ∀ b, ((Q b ∨ (W2.heap.size ≤ b ∧ b < w4.heap.size)) ∧ ¬ G b) → b < W'.heap.size := fun b h => Nat.lt_of_lt_of_le (h.1.elim (fun h => Nat.lt_of_lt_of_le (hQ b h) hs) And.right) hk.size
    rcases h with ⟨rfl, h⟩ | ⟨rfl, h⟩
    · exact ⟨true, rfl, hkk, _, hq1, hq2, .inl ⟨rfl, h⟩⟩
    · exact ⟨false, rfl, hkk, _, hq1, hq2, .inr ⟨rfl, h⟩⟩
end Go.Proofs.YtniehbjoogaccaaGreatDoor.Yld
namespace Go.Proofs.YtniehbjoogaccaaGreatDoor
open Go.RowKit Go.Shelf
attribute [local go_sem] Oper.semAt_some
def strV (x : List UInt8) : Value := .string ⟨x.toArray⟩
theorem strOfNums_numsL (x : List UInt8) : strOfNums (Lib.numsL x) = ⟨x.toArray⟩ := by
  unfold strOfNums
  rw [show (Lib.numsL x).map (fun n => UInt8.ofNat n.toNat) = x from Lib.bytesOf_numsL x]
theorem info_str : (Tryz.prog.info? 9).map (fun i => (i.zero, i.size, i.bytes)) = some (some (.string ByteArray.empty), 1, 16) := by kernel_rfl
def AllI (n₀ Bo : Nat) (w : World) (pre : List (List UInt8)) (Pv : Nat → Prop) (W : World) : Prop :=
  ∃ v, Boxed W Bo 69 v ∧ W.ownsRow n₀ 9 1 v pre.length (pre.map strV) ∧ (∀ b, Pv b → n₀ ≤ b) ∧ ¬ Pv Bo ∧ (∀ b, v.ownBlock = some b → ¬ Pv b) ∧ Below n₀ w W
theorem AllI_abide (n₀ Bo : Nat) (w : World) (hn : n₀ ≤ w.heap.size) : Abide (AllI n₀ Bo w) := by
  rintro pre Pv Pv' A B ⟨v, h1, h2, h3, h4, h5, h6⟩ hk hp
  have hs := h6.size
  refine ⟨v, hk.boxed h1 h4, hk.row h2 h5, fun b hb => ?_, fun hb => ?_, fun b hb hp' => ?_, h6.trans ⟨hk.os, hk.tape, hk.output, hk.size, fun k hk' => hk.block k (by omega) (fun hpk => by have := h3 k hpk; omega)⟩⟩
  · rcases (hp b hb).1 with h | h
    · exact h3 b h
    · omega
  · rcases (hp _ hb).1 with h | h
    · exact h4 h
    · have := h1.lt; omega
  · rcases (hp _ hp').1 with h | h
    · exact h5 b hb h
    · have := (h2.lt b hb).2; omega
end Go.Proofs.YtniehbjoogaccaaGreatDoor
namespace Go.Proofs.YtniehbjoogaccaaGreatDoor
open Go.RowKit Go.Shelf
attribute [local go_sem] Oper.semAt_some
def NumRowArg (x : Nat × List UInt8) (args : Array Value) (G : Nat → Prop) (W : World) : Prop :=
  ∃ v, args = #[.int .i64 x.1, v] ∧ W.ownsRow 0 5 1 v x.2.length ((Lib.numsL x.2).map (Value.int .u8)) ∧ G = fun b => v.ownBlock = some b
def splitOf (l : List UInt8) (xs : List (Nat × Nat)) : List (Nat × List UInt8) := xs.zipIdx.map fun x => (x.2, sub l x.1.1 x.1.2)
def splitX (c : UInt8) (l : List UInt8) : List (Nat × List UInt8) := splitOf l (spansL (isB c) l)
theorem splitOf_snoc (l : List UInt8) (pre : List (Nat × Nat)) (x : Nat × Nat) : splitOf l (pre ++ [x]) = splitOf l pre ++ [(pre.length, sub l x.1 x.2)] := by
  unfold splitOf
  simp [List.zipIdx_append]
theorem splitOf_mid (c : UInt8) (l : List UInt8) (pre : List (Nat × Nat)) (x : Nat × Nat) (rest : List (Nat × Nat)) (hx : spansL (isB c) l = pre ++ x :: rest) : ∃ r, splitX c l = splitOf l pre ++ (pre.length, sub l x.1 x.2) :: r := by
  unfold splitX splitOf
  rw [hx]
  simp [List.zipIdx_append]
theorem spansGo_len (p : UInt8 → Bool) : ∀ (l : List UInt8) (i f : Nat), (spansGo p l i f).length ≤ l.length + 1
  | [], i, f => by simp [spansGo]
  | b :: r, i, f => by
    unfold spansGo
    split
    · have := spansGo_len p r (i + 1) (i + 1); simp; omega
    · have := spansGo_len p r (i + 1) f; simp; omega
theorem Split_any (q : Option Addr) (n c : Nat) (by_ : UInt8) (l : List UInt8) (w : World) (hl : l.length = n) (hn : n ≤ 140737488355328) (h : Lib.BytesIn w q n (Lib.numsL l)) :
    Calls Tryz.prog 103 #[.slice q n c, .int .u8 (by_.toNat : Int)] w fun e w' => ∃ B v', e = .returned (.func (.func 146) #[] #[.pointer (some ⟨B, 0, none⟩), .pointer (some ⟨w.heap.size, 0, none⟩)]) ∧
      Boxed w' B 29 v' ∧ Boxed w' w.heap.size 5 (.int .u8 (by_.toNat : Int)) ∧ w'.ownsRow (w.heap.size + 1) 5 1 v' n ((Lib.numsL l).map (Value.int .u8)) ∧ w.heap.size + 1 ≤ B ∧ Below w.heap.size w w' := by
  have hb2 := bytes_keep h (Keep.alloc (fun _ => True) w (.cells #[.int .u8 (by_.toNat : Int)] 5)) (fun _ _ _ => trivial)
  have hcon := Clone_any q n c l _ hl hn hb2
  have b1 := Boxed.new w 5 (.int .u8 (by_.toNat : Int))
  have hB1 := (Below.refl w.heap.size w).alloc (Nat.le_refl _) (.cells #[.int .u8 (by_.toNat : Int)] 5)
  rw [World.size_alloc] at hcon
  clear h hb2
  go_enter Tryz.func103, Tryz.ntmps103
  go_wp2_with fail
  refine hcon.mono ?_
  rintro e w1 ⟨v', rfl, hrow, hbel⟩
  obtain ⟨q', c', rfl, _, _, _, _, hblk⟩ := row_open hrow
  have b2 := (Keep.of_below hbel).boxed b1 (Nat.lt_succ_self _)
  have hB2 := hB1.trans (hbel.mono (Nat.le_succ _))
  have hsz := hbel.size
  clear b1 hB1
  go_wp2
  go_ret
  exact ⟨w1.heap.size, _, rfl, Boxed.new w1 _ _, b2.alloc _, hrow.alloc _, by simpa using hsz, hB2.alloc hB2.size _⟩
set_option maxRecDepth 100000 in
set_option maxHeartbeats 2000000 in
theorem Split1_iter (B Bc : Nat) (by_ : UInt8) (q : Option Addr) (n c : Nat) (l : List UInt8) (RB : Nat → Prop) (w0 : World)
    (hl : l.length = n) (hn : n ≤ 140737488355328) (hnc : n ≤ c) (hb : Lib.BytesIn w0 q n (Lib.numsL l)) (hq : ∀ a, q = some a → 0 < n → RB a.block)
    (hB : Boxed w0 B 29 (.slice q n c)) (hRB : RB B) (hBc : Boxed w0 Bc 5 (.int .u8 (by_.toNat : Int))) (hRBc : RB Bc) (hRs : ∀ b, RB b → b < w0.heap.size) :
    IterC Tryz.prog 146 #[.pointer (some ⟨B, 0, none⟩), .pointer (some ⟨Bc, 0, none⟩)] NumRowArg (splitX by_ l) RB w0 := by
  intro l' J Jx W hW hJ hJx hY h0
  refine (callsIn_wide (n := 1)).1 ?_
  refine callsIn_of_wp_marks Tryz.func146 rfl trivial ?_ rfl
  simp only [Tryz.ntmps146, List.size_toArray, List.length_cons, List.length_nil, Nat.reduceAdd, Nat.reduceSub, Array.replicate_succ, Array.replicate_zero, List.push_toArray, List.append_toArray, List.nil_append, List.cons_append]
  have aB0 := hW.boxed hB hRB
  have aBc0 := hW.boxed hBc hRBc
  have bB := aB0.cell
  have bBc := aBc0.cell
  gi_wp2
  have ccB : ∀ o o', ((W.alloc o).alloc o').cell? ⟨B, 0, none⟩ = some (.slice q n c) := fun o o' => ((aB0.alloc o).alloc o').cell
  have ccC : ∀ o o', ((W.alloc o).alloc o').cell? ⟨Bc, 0, none⟩ = some (.int .u8 (by_.toNat : Int)) := fun o o' => ((aBc0.alloc o).alloc o').cell
  have ccB3 : ∀ o o' o'', (((W.alloc o).alloc o').alloc o'').cell? ⟨B, 0, none⟩ = some (.slice q n c) := fun o o' o'' => (((aB0.alloc o).alloc o').alloc o'').cell
  have ccC3 : ∀ o o' o'', (((W.alloc o).alloc o').alloc o'').cell? ⟨Bc, 0, none⟩ = some (.int .u8 (by_.toNat : Int)) := fun o o' o'' => (((aBc0.alloc o).alloc o').alloc o'').cell
  have ccB5 : ∀ o o' o'' p p', (((((W.alloc o).alloc o').alloc o'').alloc p).alloc p').cell? ⟨B, 0, none⟩ = some (.slice q n c) := fun o o' o'' p p' => (((((aB0.alloc o).alloc o').alloc o'').alloc p).alloc p').cell
  have ccC5 : ∀ o o' o'' p p', (((((W.alloc o).alloc o').alloc o'').alloc p).alloc p').cell? ⟨Bc, 0, none⟩ = some (.int .u8 (by_.toNat : Int)) := fun o o' o'' p p' => (((((aBc0.alloc o).alloc o').alloc o'').alloc p).alloc p').cell
  refine region_any (fun w => w.cell? ⟨B, 0, none⟩ = some (.slice q n c) ∧ w.cell? ⟨Bc, 0, none⟩ = some (.int .u8 (by_.toNat : Int))) (by kernel_rfl) ?_
  refine anyH_take 0 (v := .slice q n c) rfl (by kernel_rfl) (by kernel_rfl) (by kernel_rfl) (by kernel_rfl) (fun _ _ _ h => h) ⟨.inl ⟨by rfl, ?_⟩, fun _ => rfl⟩ ⟨ccB _ _, ccC _ _⟩ ?_
  · rintro w ⟨h1, h2⟩; go_simp
  refine anyH_take 1 (v := .int .u8 (by_.toNat : Int)) rfl (by kernel_rfl) (by kernel_rfl) (by kernel_rfl) (by kernel_rfl) (fun _ _ _ h => h) ⟨.inl ⟨by rfl, ?_⟩, fun _ => rfl⟩ ⟨ccB _ _, ccC _ _⟩ ?_
  · rintro w ⟨h1, h2⟩; go_simp
  refine anyH_one 2 (by kernel_rfl) rfl fun K hK => ?_
  go_simp
  refine ⟨trivial, (callsIn_wide.2 (isByte_any by_ _)).mono ?_⟩
  rintro e w' ⟨rfl, rfl⟩
  refine hK _ _ ⟨ccB3 _ _ _, ccC3 _ _ _⟩ ?_
  clear hK K
  refine anyH_one 3 (by kernel_rfl) rfl fun K hK => ?_
  go_simp
  refine ⟨trivial, (callsIn_wide.2 (spans_any _ _ _ _ _ _)).mono ?_⟩
  rintro e w' ⟨rfl, rfl⟩
  refine hK _ _ ⟨ccB5 _ _ _ _ _, ccC5 _ _ _ _ _⟩ ?_
  clear hK K
  refine anyH_done (by kernel_rfl) ?_ _
  clear ccB ccC ccB3 ccC3 ccB5 ccC5
  simp only [drew_alloc, drew_size, World.size_alloc]
  gi_wp2
  obtain ⟨W1, hW1, a0, ai, a2, a3, a4, hsz, hk1⟩ := five_boxes W 186 3 5 29 144 (.func (.yield l') #[] #[]) (.int .i64 0) (.int .u8 (by_.toNat : Int)) (.slice q n c) (.func (.func 185) #[] #[.pointer (some ⟨W.heap.size + 1 + 1, 0, none⟩)])
  rw [hW1]
  clear hW1
  obtain ⟨RBin, hRBin⟩ : ∃ RBin : Nat → Prop, RBin = fun b => RB b ∨ b = W.heap.size ∨ b = W.heap.size + 1 + 1 ∨ b = W.heap.size + 1 + 1 + 1 ∨ b = W.heap.size + 1 + 1 + 1 + 1 := ⟨_, rfl⟩
  obtain ⟨Ow, hOw⟩ : ∃ Ow : Nat → Prop, Ow = fun b => W.heap.size ≤ b ∧ b < W1.heap.size := ⟨_, rfl⟩
  have hW0 := hW.size
  have hRl : ∀ b, RBin b → b < W1.heap.size := fun b hb => by rw [hRBin] at hb; rcases hb with hb | hb; (have := hRs b hb; omega); omega
  have hRi : ¬ RBin (W.heap.size + 1) := fun hb => by rw [hRBin] at hb; rcases hb with hb | hb; (have := hRs _ hb; omega); omega
  have hRBo : ∀ b, RB b → RBin b := fun b hb => by rw [hRBin]; exact .inl hb
  have hOwR : ∀ b, RBin b → RB b ∨ Ow b := fun b hb => by
    have h1 := hRl b hb
    rw [hRBin] at hb; rw [hOw]
    rcases hb with hb | hb
    · exact .inl hb
    · exact .inr ⟨by omega, h1⟩
  have r0 : RBin W.heap.size := by rw [hRBin]; exact .inr (.inl rfl)
  have r2 : RBin (W.heap.size + 1 + 1) := by rw [hRBin]; exact .inr (.inr (.inl rfl))
  have r3 : RBin (W.heap.size + 1 + 1 + 1) := by rw [hRBin]; exact .inr (.inr (.inr (.inl rfl)))
  have r4 : RBin (W.heap.size + 1 + 1 + 1 + 1) := by rw [hRBin]; exact .inr (.inr (.inr (.inr rfl)))
  have hOwl : ∀ b, Ow b → W.heap.size ≤ b ∧ b < W1.heap.size := fun b hb => by rw [hOw] at hb; exact hb
  have o0 : Ow W.heap.size := by rw [hOw]; exact ⟨Nat.le_refl _, by omega⟩
  have oi : Ow (W.heap.size + 1) := by rw [hOw]; exact ⟨by omega, by omega⟩
  clear hRBin hOw
  have hil : W.heap.size + 1 < W1.heap.size := by omega
  have hb1 : Lib.BytesIn W1 q n (Lib.numsL l) := bytes_keep hb (hW.trans (hk1 RB)) hq
  have aB := (hk1 RB).boxed aB0 hRB
  refine rf_law (gf := 184) (lb := #[.pointer (some ⟨W.heap.size + 1 + 1 + 1, 0, none⟩), .pointer (some ⟨W.heap.size + 1 + 1 + 1 + 1, 0, none⟩)]) rfl (enters_of Tryz.func184 (by kernel_rfl) rfl)
    (spans1_iter (W.heap.size + 1 + 1 + 1) (W.heap.size + 1 + 1 + 1 + 1) q n c 185 #[.pointer (some ⟨W.heap.size + 1 + 1, 0, none⟩)] l (isB by_) RBin W1 hl hn hb1 (fun a h1 h2 => hRBo _ (hq a h1 h2)) a3 a4 r3 r4
      (isByte_tests by_ (W.heap.size + 1 + 1) RBin W1 a2 r2)) (Keep.refl _ _) hRl (fun x args G W h => by rw [h.1]; rfl)
    (AdI RBin Ow W1 J (splitOf l) (fun pre Wr => Boxed Wr (W.heap.size + 1) 3 (.int .i64 pre.length))) (AdX J Jx (splitX by_ l)) (AdI_abide hJ hRl (fun _ _ _ hk h => hk.boxed h hil)) (AdX_abide hJ hJx)
    ⟨Keep.refl _ _, (fun _ h => h.elim), ai, Ow, hJ _ _ _ _ _ h0 (hk1 _) (fun b hb => ⟨.inr (hOwl b hb).1, (hOwl b hb).2⟩), (fun _ h => h.elim), (fun _ h => h), (fun b hb => (hOwl b hb).2)⟩ ?round ?done ?stop
  case round =>
    rintro ll pre ⟨f, t⟩ rest Pv G args Wr hll hxs ⟨hKI, hge, hEi, Q, hj, hPQ, hOQ, hQl⟩ hPl hGl hPb hGP ⟨rfl, rfl⟩
    gi_wp2
    refine ⟨Keep.refl _ _, fun W2 hk2 hs2 r hr => ?_⟩
    have hbd := spansL_bounds (isB by_) l (f, t) (by rw [hxs]; simp)
    have hpl : pre.length ≤ n := by
      have h1 := spansGo_len (isB by_) l 0 0
      have h2 : (spansL (isB by_) l).length = pre.length + (rest.length + 1) := by rw [hxs]; simp
      unfold spansL at h2
      omega
    simp only at hbd
    have hlW : W1.heap.size ≤ ll := hge ll hPl
    have hPi : ¬ Pv (W.heap.size + 1) := fun h => by have := hge _ h; omega
    have j2 : J (splitOf l pre) Q W2 := hJ _ _ _ _ _ hj (hk2.mono fun b _ hb => by rintro rfl; exact hb (hPQ _ hPl)) fun b hb => ⟨.inl hb, by have := hQl b hb; omega⟩
    have k2 : Keep RBin W1 W2 := hKI.trans (hk2.mono fun b _ hb => by have := hRl b hb; omega)
    have hQ2 : ∀ b, Q b → b < W2.heap.size := fun b hb => by have := hQl b hb; omega
    have b0 := k2.boxed a0 r0
    have bi := hk2.boxed hEi (by omega)
    have bB := k2.boxed aB (hRBo _ hRB)
    have c0 := b0.cell
    have ci := bi.cell
    have cB := bB.cell
    have hsl := run_slice_sub q n c f t
    obtain ⟨r, hys⟩ := splitOf_mid by_ l pre (f, t) rest hxs
    have hbs : Lib.BytesIn W2 (subA q c f) (t - f) (Lib.numsL (sub l f t)) := bytes_sub (bytes_keep hb1 k2 (fun a h1 h2 => hRBo _ (hq a h1 h2))) hl hbd.1 (by omega) hnc
    have hm := sub_length l f t hbd.2
    have con2 := Clone_any (subA q c f) (t - f) (c - f) (sub l f t) W2.drew hm (by omega) hbs
    have hft : f ≤ t := hbd.1
    have htc : t ≤ c := by omega
    have HSL := fun W => hsl W hft htc
    have after : ∀ w4 v4, w4.ownsRow W2.heap.size 5 1 v4 (t - f) ((Lib.numsL (sub l f t)).map (Value.int .u8)) → Below W2.heap.size W2 w4 →
        w4.cell? ⟨W.heap.size, 0, none⟩ = some (.func (.yield l') #[] #[]) ∧ w4.cell? ⟨W.heap.size + 1, 0, none⟩ = some (.int .i64 pre.length) ∧ w4.cell? ⟨B, 0, none⟩ = some (.slice q n c) ∧
        YieldAt Fence.wide 0 Tryz.prog l' #[.int .i64 pre.length, v4] w4 fun e W' => ∃ ok : Bool, e = .returned (.bool ok) ∧ RowPost J Jx (splitOf l pre ++ [(pre.length, sub l f t)]) RB Q W2 ok W' := by
      intro w4 v4 h1 hbw
      refine ⟨((Keep.of_below hbw).boxed b0 b0.lt).cell, ((Keep.of_below hbw).boxed bi bi.lt).cell, ((Keep.of_below hbw).boxed bB bB.lt).cell, ?_⟩
      exact yield_arg (v4 := v4) hJ hY hys j2 hQ2 hbw (fun b h => h1.lt b h) ⟨v4, rfl, by rw [show (sub l f t).length = t - f from hm]; exact row_base h1 (Nat.zero_le _), rfl⟩
    have HX2 := Lib.hid (splitOf_snoc l pre (f, t))
    have HY := Lib.hid hys
    clear hbs hbd hb1 hxs hys hsl hY hb hq hs2
    gi_wp2_with fail
    refine region_any (fun w => w.cell? ⟨W.heap.size, 0, none⟩ = some (.func (.yield l') #[] #[]) ∧ w.cell? ⟨W.heap.size + 1, 0, none⟩ = some (.int .i64 pre.length) ∧ w.cell? ⟨B, 0, none⟩ = some (.slice q n c)) (by kernel_rfl) ?_
    refine anyH_take 0 (v := .func (.yield l') #[] #[]) rfl (by kernel_rfl) (by kernel_rfl) (by kernel_rfl) (by kernel_rfl) (fun _ _ _ h => h) ⟨.inl ⟨by rfl, ?_⟩, fun _ => rfl⟩ ⟨c0, ci, cB⟩ ?_
    · rintro w ⟨h1, h2, h3⟩; go_simp
    refine anyH_take 1 (v := .int .i64 pre.length) rfl (by kernel_rfl) (by kernel_rfl) (by kernel_rfl) (by kernel_rfl) (fun _ _ _ h => h) ⟨.inl ⟨by rfl, ?_⟩, fun _ => rfl⟩ ⟨c0, ci, cB⟩ ?_
    · rintro w ⟨h1, h2, h3⟩; go_simp
    refine anyH_take 2 (v := .slice q n c) rfl (by kernel_rfl) (by kernel_rfl) (by kernel_rfl) (by kernel_rfl) (fun _ _ _ h => h) ⟨.inl ⟨by rfl, ?_⟩, fun _ => rfl⟩ ⟨c0, ci, cB⟩ ?_
    · rintro w ⟨h1, h2, h3⟩; go_simp
    refine anyH_take 3 (v := .int .i64 f) rfl (by kernel_rfl) (by kernel_rfl) (by kernel_rfl) (by kernel_rfl) (fun _ _ _ h => h) ⟨.inl ⟨by rfl, ?_⟩, fun _ => rfl⟩ ⟨c0, ci, cB⟩ ?_
    · rintro w ⟨h1, h2, h3⟩; go_simp
    refine anyH_take 4 (v := .int .i64 t) rfl (by kernel_rfl) (by kernel_rfl) (by kernel_rfl) (by kernel_rfl) (fun _ _ _ h => h) ⟨.inl ⟨by rfl, ?_⟩, fun _ => rfl⟩ ⟨c0, ci, cB⟩ ?_
    · rintro w ⟨h1, h2, h3⟩; go_simp
    refine anyH_take 5 (v := .slice (subA q c f) (t - f) (c - f)) rfl (by kernel_rfl) (by kernel_rfl) (by kernel_rfl) (by kernel_rfl) (fun _ _ _ h => h) ⟨.inl ⟨by rfl, ?_⟩, fun _ => rfl⟩ ⟨c0, ci, cB⟩ ?_
    · rintro w ⟨h1, h2, h3⟩; go_simp
    refine anyH_one 6 (by kernel_rfl) rfl fun K hK => ?_
    go_simp
    refine ⟨trivial, rfl, (CallsIn.inRound ll (callsIn_wide.2 con2)).mono ?_⟩
    rintro e w4 ⟨v4, rfl, hrow4, hbel4⟩
    obtain ⟨d0, di, dB, fn, tmps, assign, body, hy, hR⟩ := after w4 v4 hrow4 ⟨hbel4.os, hbel4.tape, hbel4.output, hbel4.size, hbel4.block⟩
    refine hK _ _ ⟨d0, di, dB⟩ ?_
    clear hK K
    refine anyH_one 7 (by kernel_rfl) rfl fun K hK => ?_
    go_simp
    refine ⟨rfl, RoundIn.mono hR ?_⟩
    rintro e W5 ⟨ok, rfl, hpost⟩
    have ei := hpost.1.boxed bi (.inr (hOQ _ oi))
    have eS := And.intro (hpost.1.boxed b0 (.inr (hOQ _ o0))).cell (And.intro ei.cell (hpost.1.boxed bB (.inl hRB)).cell)
    refine hK _ _ eS ?_
    clear hK K
    refine anyH_take 8 (v := .bool (!ok)) rfl (by kernel_rfl) (by kernel_rfl) (by kernel_rfl) (by kernel_rfl) (fun _ _ _ h => h) ⟨.inl ⟨by rfl, ?_⟩, fun _ => rfl⟩ eS ?_
    · rintro w ⟨h1, h2, h3⟩; go_simp
    refine anyH_done (by kernel_rfl) ?_ _
    obtain ⟨hkp, Q', hQQ, hQl', hpost⟩ := hpost
    have hkk : Keep (fun b => RBin b ∨ Pv b) W2 W5 := hkp.mono fun b _ h => h.elim (fun h => (hOwR b h).imp id (hOQ b)) (fun h => .inr (hPQ b h))
    have fi := ei.frozen
    have ci5 := ei.cell
    clear hkp after con2 HSL hy hR hrow4 hbel4 d0 di dB eS c0 ci cB
    cases ok with
    | true =>
      have hj5 := (hpost.resolve_right (by simp)).2
      clear hpost
      gi_wp2
      have kst : ∀ S : Nat → Prop, ¬ S (W.heap.size + 1) → Keep S W5 (W5.setCell ⟨W.heap.size + 1, 0, none⟩ (.int .i64 (pre.length + 1))) := fun S h => Keep.setCell _ _ _ h
      refine ⟨hkk.trans (kst _ (fun h => h.elim hRi hPi)), k2.trans ((hkk.mono fun b _ h => .inl h).trans (kst _ hRi)), fun b hb => hge b hb, ?_, Q', ?_, fun b hb => hQQ b (hPQ b hb), fun b hb => hQQ b (hOQ b hb), fun b hb => ?_⟩
      · have := ei.set (.int .i64 ((pre.length : Int) + 1))
        simpa using this
      · rw [HX2.out]
        exact hJ _ _ _ _ _ hj5 (kst _ (fun h => h (hQQ _ (hOQ _ oi)))) (fun b hb => ⟨.inl hb, Nat.lt_of_lt_of_le (hQl' b hb) (kst (fun _ => False) (fun h => h)).size⟩)
      · exact Nat.lt_of_lt_of_le (hQl' b hb) (kst (fun _ => False) (fun h => h)).size
    | false =>
      have hj5 := (hpost.resolve_left (by simp)).2
      clear hpost
      gi_wp2
      exact ⟨hkk, rfl, Q', fun b hb => hQQ b (hPQ b hb), hQl', .inr ⟨_, r, by rw [HY.out, List.append_assoc]; rfl, hj5⟩⟩
  case done =>
    rintro D Pv Wd hD hPD hPl ⟨_, hge, _, Q, hj, hPQ, hOQ, hQl⟩ hK
    gi_wp2
    refine ⟨by simp, .inl ⟨_, _, rfl, run_takeDeferred hK, ?_⟩⟩
    refine ⟨_, results_none rfl _ _ _, ⟨_, rfl⟩, Q, ?_, .inl ?_⟩
    · intro b hb; rw [World.putObj_size]; exact hQl b hb
    · exact hJ _ _ _ _ _ hj (Keep.putObj _ _ _ (fun h => h (hPQ D hPD))) (fun b hb => ⟨.inl hb, by rw [World.putObj_size]; exact hQl b hb⟩)
  case stop =>
    rintro D cc pre rest Pv Wd hD hPD hPl hxs ⟨rfl, Q, hPQ, hQl, hj⟩ hK
    gi_wp2
    refine ⟨by simp, .inl ⟨_, _, rfl, run_takeDeferred hK, ?_⟩⟩
    refine ⟨_, results_none rfl _ _ _, ⟨_, rfl⟩, Q, ?_, ?_⟩
    · intro b hb; rw [World.putObj_size]; exact hQl b hb
    · have hkp : Keep (fun b => ¬ Q b) Wd (Wd.putObj D (.deferred none)) := Keep.putObj _ _ _ (fun h => h (hPQ D hPD))
      have hqp : ∀ b, Q b → (Q b ∨ Wd.heap.size ≤ b) ∧ b < (Wd.putObj D (.deferred none)).heap.size := fun b hb => ⟨.inl hb, by rw [World.putObj_size]; exact hQl b hb⟩
      rcases hj with hj | ⟨pre', rest', he, hj⟩
      · exact .inl (hJ _ _ _ _ _ hj hkp hqp)
      · exact .inr ⟨pre', rest', he, hJx _ _ _ _ _ hj hkp hqp⟩
end Go.Proofs.YtniehbjoogaccaaGreatDoor
namespace Go.Proofs.YtniehbjoogaccaaGreatDoor.Hdr
open Url
set_option linter.unusedVariables false
def trimB (l : List UInt8) : List UInt8 := ((l.dropWhile blankB).reverse.dropWhile blankB).reverse
theorem tail_len (c : UInt8) : ∀ t r : List UInt8, Host.tailL c t = some r → r.length < t.length
  | [], r, h => by cases h
  | b :: t, r, h => by
    unfold Host.tailL at h
    split at h
    · cases h; simp
    · have := tail_len c t r h; simp; omega
end Go.Proofs.YtniehbjoogaccaaGreatDoor.Hdr
namespace Go.Proofs.YtniehbjoogaccaaGreatDoor
open Go.RowKit Go.Shelf
def StrsIn (w : World) (p : Option Addr) (n : Nat) (xs : List (List UInt8)) : Prop :=
  0 < n → ∃ b o, p = some ⟨b, o, none⟩ ∧ ∀ i, i < n → w.cell? ⟨b, o + i, none⟩ = some (strV (xs.getD i []))
def sameL (xs ys : List (List UInt8)) : Bool := decide (xs = ys)
theorem strs_row {W : World} {base n : Nat} {v : Value} {xs : List (List UInt8)} (h : W.ownsRow base 9 1 v n (xs.map strV)) :
    ∃ q c, v = .slice q n c ∧ xs.length = n ∧ n ≤ c ∧ c ≤ maxLen ∧ StrsIn W q n xs ∧ (∀ a, q = some a → a.block < W.heap.size ∧ base ≤ a.block) := by
  have hl : xs.length = n := by have := h.1; simpa using this
  rcases h.2 with ⟨rfl, rfl⟩ | ⟨g, cap, cur, rfl, hb, hg, h1, h2, h3, h4⟩
  · exact ⟨none, 0, rfl, hl, Nat.le_refl _, Nat.zero_le _, fun h0 => absurd h0 (Nat.lt_irrefl 0), by intro a ha; cases ha⟩
  · refine ⟨some ⟨g, 0, none⟩, cap, rfl, hl, h1, h2, fun h0 => ⟨g, 0, rfl, fun i hi => ?_⟩, fun a ha => by cases ha; exact ⟨(Array.getElem?_eq_some_iff.1 hg).1, hb⟩⟩
    have hi' : i < xs.length := by omega
    have hcur : cur[i]? = some (strV (xs.getD i [])) := by
      have : (cur.toList.take (n * 1))[i]? = some (strV (xs.getD i [])) := by
        rw [h4]
        simp [List.getElem?_eq_getElem hi', List.getD]
      rw [List.getElem?_take, if_pos (by omega)] at this
      simpa using this
    simp only [World.cell?, hg, Nat.zero_add]
    exact hcur
theorem drop_consS (l : List (List UInt8)) (k : Nat) (h : k < l.length) : l.drop k = l.getD k [] :: l.drop (k + 1) := by
  rw [List.drop_eq_getElem_cons h]
  simp [List.getD, List.getElem?_eq_getElem h]
set_option maxHeartbeats 1000000 in
theorem Same_any (p1 p2 : Option Addr) (n c m d : Nat) (xs ys : List (List UInt8)) (w : World) (hx : xs.length = n) (hy : ys.length = m) (hn : n ≤ 140737488355328) (hm : m ≤ 140737488355328) (h1 : StrsIn w p1 n xs) (h2 : StrsIn w p2 m ys) :
    Calls Tryz.prog 26 #[.slice p1 n c, .slice p2 m d] w fun e w' => e = .returned (.bool (sameL xs ys)) ∧ ∃ q, w' = w.drewN q := by
  by_cases hnm : n = m
  · subst hnm
    have e0 : ((n : Int) != (n : Int)) = false := by simp
    go_enter Tryz.func26, Tryz.ntmps26
    go_wp2
    go_loopw [13] (fun i wr => ∃ k q : Nat, k ≤ n ∧ i = .int .i64 k ∧ wr = w.drewN q ∧ Hid (sameL xs ys = sameL (xs.drop k) (ys.drop k))) (fun i _ => n - (intOf i).toNat)
    case atStart => exact ⟨0, 0, Nat.zero_le _, rfl, rfl, rfl⟩
    case round =>
      obtain ⟨k, q, hk, rfl, rfl, HR⟩ := hrel
      by_cases hlt : k < n
      · obtain ⟨b1, o1, rfl, hc1⟩ := h1 (by omega)
        obtain ⟨b2, o2, rfl, hc2⟩ := h2 (by omega)
        have c1 := hc1 k hlt
        have c2 := hc2 k hlt
        have d1 := drop_consS xs k (by omega)
        have d2 := drop_consS ys k (by omega)
        clear hc1 hc2 h1 h2 e0
        generalize xs.getD k [] = x at c1 d1
        generalize ys.getD k [] = y at c2 d2
        unfold strV at c1 c2
        by_cases hxy : x = y
        · subst hxy
          have HR2 := Lib.hid (show sameL xs ys = sameL (xs.drop (k + 1)) (ys.drop (k + 1)) by rw [HR.out, d1, d2]; unfold sameL; simp)
          clear d1 d2 HR
          go_wp2
          go_quiet (fail)
          go_wp2
          go_roundw
          case rel => exact ⟨k + 1, q + nq, by omega, by go_num, rfl, HR2⟩
          case measure => simp [intOf]; omega
        · have hne' : (x == y) = false := by rw [beq_eq_false_iff_ne]; exact hxy
          have H := Lib.hid (show sameL xs ys = false by rw [HR.out, d1, d2]; unfold sameL; simp [hxy])
          clear d1 d2 HR hxy
          go_wp2
          go_quiet (fail)
          go_wp2
          go_ret
          exact ⟨(by rw [H.out]; try rfl), q + nq, by simp [World.drewN, Nat.add_assoc]⟩
      · have H := Lib.hid (show sameL xs ys = true by rw [HR.out, List.drop_of_length_le (by omega), List.drop_of_length_le (by omega)]; rfl)
        go_wp2
        go_ret
        exact ⟨(by rw [H.out]; try rfl), q, rfl⟩
  · have e0 : ((n : Int) != (m : Int)) = true := by rw [bne_iff_ne]; omega
    have H := Lib.hid (show sameL xs ys = false by unfold sameL; rw [decide_eq_false_iff_not]; intro h; apply hnm; rw [← hx, ← hy, h])
    go_enter Tryz.func26, Tryz.ntmps26
    go_wp2
    go_ret
    exact ⟨(by rw [H.out]; try rfl), 0, rfl⟩
end Go.Proofs.YtniehbjoogaccaaGreatDoor
namespace Go.Proofs.YtniehbjoogaccaaGreatDoor.Pct
open Go.RowKit Go.Shelf
attribute [local go_sem] Oper.semAt_some
theorem appended_keep {W w1 : World} {n₀ B : Nat} {t e : TypeId} {size : Nat} {v v' : Value} {k m : Nat} {xs ys : List Value} {tmp : Obj} {S : Nat → Prop}
    (hv : Boxed W B t v) (hte : t ≠ e) (hrow : W.ownsRow n₀ e size v k xs) (hS : ¬ S B) (hSo : ∀ b, v.ownBlock = some b → ¬ S b) (hown' : w1.ownsRow n₀ e size v' m ys) (hgrow : (W.alloc tmp).grownBy w1 v.ownBlock) :
    Boxed w1 B t v ∧ Boxed (w1.setCell ⟨B, 0, none⟩ v') B t v' ∧ (w1.setCell ⟨B, 0, none⟩ v').ownsRow n₀ e size v' m ys ∧ Keep S W (w1.setCell ⟨B, 0, none⟩ v') := by
  have hv1 : Boxed w1 B t v := (hv.alloc tmp).kept hgrow (hv.not_row hte hrow)
  exact ⟨hv1, hv1.set v', hown'.kept (grownBy_setCell' w1 B v') (.inr (hv1.not_row hte hown').symm), ((Keep.alloc S W tmp).trans (Keep.of_grownBy hgrow hSo)).trans (Keep.setCell _ _ _ hS)⟩
def CollI (g : List (UInt8 × Bool) → List UInt8) (base Bo : Nat) (RB : Nat → Prop) (W0 : World) (pre : List (UInt8 × Bool)) (Pv : Nat → Prop) (W : World) : Prop :=
  ∃ v, Boxed W Bo 29 v ∧ W.ownsRow base 5 1 v (g pre).length (byV (g pre)) ∧ (∀ b, Pv b → W0.heap.size ≤ b) ∧ (∀ b, v.ownBlock = some b → ¬ Pv b) ∧ Keep RB W0 W
theorem CollI_abide (g : List (UInt8 × Bool) → List UInt8) (base Bo : Nat) (RB : Nat → Prop) (W0 : World) (hBo : Bo < W0.heap.size) (hRB : ∀ b, RB b → b < W0.heap.size) : Abide (CollI g base Bo RB W0) := by
  rintro pre Pv Pv' A B ⟨v, h1, h2, h3, h5, h6⟩ hk hp
  have hs := h6.size
  refine ⟨v, hk.boxed h1 (fun h => by have := h3 _ h; omega), hk.row h2 h5, fun b hb => ?_, fun b hb hp' => ?_, h6.trans (hk.mono fun b _ hb hpb => by have := h3 b hpb; have := hRB b hb; omega)⟩
  · rcases (hp b hb).1 with h | h
    · exact h3 b h
    · omega
  · rcases (hp _ hp').1 with h | h
    · exact h5 b hb h
    · have := (h2.lt b hb).2; omega
def TextPost (o : Option (List UInt8)) (w : World) (e : Ending) (w' : World) : Prop :=
  ∃ v n, e = .returned (.tuple #[v, .int .i64 n]) ∧ Hid (n = if o.isSome then 0 else 2) ∧ w'.ownsRow w.heap.size 5 1 v (o.getD []).length (byV (o.getD [])) ∧ Below w.heap.size w w'
end Go.Proofs.YtniehbjoogaccaaGreatDoor.Pct
namespace Go.Proofs.YtniehbjoogaccaaGreatDoor
open Go.RowKit Go.Shelf
attribute [local go_sem] Oper.semAt_some
end Go.Proofs.YtniehbjoogaccaaGreatDoor
namespace Go.Proofs.YtniehbjoogaccaaGreatDoor.Pct
open Go.RowKit Go.Shelf
attribute [local go_sem] Oper.semAt_some
theorem grown_keep {W w1 : World} {n₀ B : Nat} {t e : TypeId} {size : Nat} {v v' : Value} {k m : Nat} {xs ys : List Value} {S : Nat → Prop}
    (hv : Boxed W B t v) (hte : t ≠ e) (hrow : W.ownsRow n₀ e size v k xs) (hS : ¬ S B) (hSo : ∀ b, v.ownBlock = some b → ¬ S b) (hown' : w1.ownsRow n₀ e size v' m ys) (hG : Grown W v w1 v') :
    Boxed w1 B t v ∧ Boxed (w1.setCell ⟨B, 0, none⟩ v') B t v' ∧ (w1.setCell ⟨B, 0, none⟩ v').ownsRow n₀ e size v' m ys ∧ Keep S W (w1.setCell ⟨B, 0, none⟩ v') := by
  have hv1 : Boxed w1 B t v := (hG.1 (fun b => v.ownBlock ≠ some b) (fun b hb h => h hb)).boxed hv (hv.not_row hte hrow).symm
  exact ⟨hv1, hv1.set v', hown'.kept (grownBy_setCell' w1 B v') (.inr (hv1.not_row hte hown').symm), (hG.1 S hSo).trans (Keep.setCell _ _ _ hS)⟩
theorem can_one (p : Int) (pre : List (UInt8 × Bool)) (x : UInt8) (cd : Bool) : canL p (pre ++ [(x, cd)]) = canL p pre ++ putL (canB p (x, cd)) x := by
  simp [canL]
set_option maxRecDepth 100000 in
set_option maxHeartbeats 4000000 in
theorem Canon_any (q : Option Addr) (n c : Nat) (l : List UInt8) (p : Int) (w : World) (hl : l.length = n) (hn : n ≤ 274877906944) (hb : Lib.BytesIn w q n (Lib.numsL l)) :
    Calls Tryz.prog 91 #[.slice q n c, .int .i64 p] w fun e w' => TextPost ((itemsL l).map (canL p)) w e w' := by
  obtain ⟨i0, hi0, hz0, hz1, hz2⟩ := info_parts info_u8
  obtain ⟨Wp, hWp⟩ : ∃ Wp, w.alloc (.cells #[.int .i64 p] 143) = Wp := ⟨_, rfl⟩
  have hbp : Boxed Wp w.heap.size 143 (.int .i64 p) := by rw [← hWp]; exact Boxed.new w _ _
  have hkp : ∀ S, Keep S w Wp := fun S => by rw [← hWp]; exact Keep.alloc S w _
  have hsp : Wp.heap.size = w.heap.size + 1 := by rw [← hWp]; simp
  have hql := bytes_lt hb
  replace hb := bytes_keep hb (hkp (fun _ => True)) (fun _ _ _ => trivial)
  have con := whole_any q n c l Wp hl (by omega) hb
  have HWp := Lib.hid hWp
  clear hWp
  refine (callsIn_wide (n := 1)).1 ?_
  refine callsIn_of_wp_marks Tryz.func91 rfl trivial ?_ rfl
  simp only [Tryz.ntmps91, List.size_toArray, List.length_cons, List.length_nil, Nat.reduceAdd, Nat.reduceSub, Array.replicate_succ, Array.replicate_zero, List.push_toArray, List.append_toArray, List.nil_append, List.cons_append]
  cases hw : wholeL l with
  | false =>
    have hi := whole_none l hw
    rw [hw] at con
    have HI := Lib.hid hi
    clear hi hw hl hb
    have hBp := (hkp (fun b => b < w.heap.size)).below (Nat.le_refl _)
    clear hsp hkp
    gi_wp2_with fail
    rw [HWp.out]
    refine ⟨trivial, (callsIn_wide.2 con).mono ?_⟩
    rintro e w' ⟨rfl, rfl⟩
    clear con hql
    gi_wp2
    refine ⟨_, results_tmp2 rfl _ _ _, .slice none 0 0, 2, rfl, Lib.hid (by rw [HI.out]; rfl), ?_, hBp⟩
    rw [HI.out]
    exact World.ownsRow_nil _ _ _ _
  | true =>
    obtain ⟨m, hm⟩ := whole_some l hw
    rw [hw] at con
    have hml : m.length ≤ n := by have := items_len l m hm; omega
    obtain ⟨w1, hrun, hown, hgrow⟩ := run_make_own (P := Tryz.prog) (w := Wp) (w.heap.size + 1) 29 5 i0 (.int .u8 0) 1 Tryz.underlying29 hi0 hz0 hz1 .i64 .i64 n (by rw [hz2]; omega) (by unfold maxLen; omega) (by omega)
    have hk1 : ∀ S, Keep S Wp w1 := fun S => Keep.of_grownBy hgrow (fun r h => by cases h)
    have hw1 : w.heap.size + 1 < w1.heap.size := by have := (hown.lt Wp.heap.size rfl).2; omega
    rw [hsp] at hown hrun
    obtain ⟨W1, hW1⟩ : ∃ W1, w1.alloc (.cells #[.slice (some ⟨w.heap.size + 1, 0, none⟩) 0 n] 29) = W1 := ⟨_, rfl⟩
    have hs1 : W1.heap.size = w1.heap.size + 1 := by rw [← hW1]; simp
    have b0 : Boxed (W1.alloc (.cells #[.slice q n c] 29)) w1.heap.size 29 (.slice (some ⟨w.heap.size + 1, 0, none⟩) 0 n) := by rw [← hW1]; exact (Boxed.new w1 _ _).alloc _
    have b1 := Boxed.new W1 29 (.slice q n c)
    have own0 : (W1.alloc (.cells #[.slice q n c] 29)).ownsRow (w.heap.size + 1) 5 1 (.slice (some ⟨w.heap.size + 1, 0, none⟩) 0 n) 0 [] := by rw [← hW1]; exact (hown.alloc _).alloc _
    have hk0 : ∀ S, Keep S Wp (W1.alloc (.cells #[.slice q n c] 29)) := fun S => by rw [← hW1]; exact (hk1 S).trans ((Keep.alloc S w1 _).trans (Keep.alloc S _ _))
    have hs0 : (W1.alloc (.cells #[.slice q n c] 29)).heap.size = w1.heap.size + 2 := by simp; omega
    have con2 := meant_any q n c W1
    have hb0 := bytes_keep hb (hk0 (fun _ => True)) (fun _ _ _ => trivial)
    have HM := Lib.hid hm
    have HL := Lib.hid hl
    have HW1 := Lib.hid hW1
    have HS1 := Lib.hid hs1
    have HS0 := Lib.hid hs0
    have HSP := Lib.hid hsp
    clear hm hw hl hgrow hown hk1 hW1 hs1 hs0 hb hsp
    gi_wp2_with fail
    rw [HWp.out]
    refine ⟨trivial, (callsIn_wide.2 con).mono ?_⟩
    rintro e w' ⟨rfl, rfl⟩
    clear con
    gi_wp2_with fail
    rw [HW1.out]
    refine ⟨trivial, (callsIn_wide.2 con2).mono ?_⟩
    rintro e W0 ⟨rfl, hW0⟩
    rw [← hW0] at b0 b1 own0 hk0 hb0 HS0
    clear con2 hW0 hrun
    gi_wp2
    have hs1 := HS1.out
    have hs0 := HS0.out
    replace hbp := (hk0 (fun _ => True)).boxed hbp trivial
    rw [hs1] at b1
    obtain ⟨RB, hRB⟩ : ∃ RB : Nat → Prop, RB = fun b => b < w.heap.size + 1 ∨ b = w1.heap.size + 1 := ⟨_, rfl⟩
    have hRl : ∀ b, RB b → b < W0.heap.size := fun b hb => by rw [hRB] at hb; rcases hb with h | h <;> omega
    have hRo : ∀ b, b < w.heap.size + 1 → RB b := fun b hb => by rw [hRB]; exact .inl hb
    have hRi : RB (w1.heap.size + 1) := by rw [hRB]; exact .inr rfl
    have hRn : ¬ RB w1.heap.size := fun hb => by rw [hRB] at hb; rcases hb with h | h <;> omega
    have hRr : ∀ b, RB b → w.heap.size + 1 ≤ b → b = w1.heap.size + 1 := fun b hb h => by rw [hRB] at hb; rcases hb with h' | h'; omega; exact h'
    clear hRB
    rw [hs1]
    clear hs1 HS1
    refine rf_law (gf := 176) (lb := #[.pointer (some ⟨w1.heap.size + 1, 0, none⟩)]) rfl (enters_of Tryz.func176 (by kernel_rfl) rfl)
      (meant1_iter (w1.heap.size + 1) q n c l m RB W0 HL.out (by omega) HM.out hb0 (fun a ha h0 => hRo _ (by have := hql a ha h0; omega)) b1 hRi) (Keep.refl _ _) hRl (fun x args G W h => by rw [h.1]; rfl)
      (CollI (canL p) (w.heap.size + 1) w1.heap.size RB W0) (fun _ _ _ _ => False) (CollI_abide _ _ _ _ _ (by omega) hRl) (fun _ _ _ _ _ _ h _ _ => h)
      ⟨_, b0, own0, (fun _ h => h.elim), (fun _ _ h => h), Keep.refl _ _⟩ ?round ?done ?stop
    case round =>
      rintro ll pre ⟨x, cd⟩ rest Pv G args Wr hll hxs ⟨v, hbx, hrow, hge, hnv, hKW⟩ hPl hGl hPb hGP ⟨rfl, rfl⟩
      have hpl : (canL p pre).length ≤ 70368744177664 := by
        have h1 : pre.length + rest.length + 1 = m.length := by rw [hxs]; simp; omega
        have h2 := can_len p pre
        omega
      have hxx := u8_lt x
      clear b0 own0 hb0 hxs
      gi_wp2
      refine ⟨Keep.refl _ _, fun W2 hk2 hs2 r hr => ?_⟩
      have hnP : ∀ b, b < W0.heap.size → ¬ Pv b := fun b hb h => by have := hge b h; omega
      have hk2' : Keep (fun b => ¬ Pv b) Wr W2 := hk2.mono fun b _ hb h => hb (h ▸ hPl)
      replace hbx := hk2'.boxed hbx (hnP _ (by omega))
      replace hrow := hk2'.row hrow hnv
      have hK2 : Keep RB W0 W2 := hKW.trans (hk2'.mono fun b _ hb => hnP b (hRl b hb))
      have hPl2 : ∀ b, Pv b → b < W2.heap.size := fun b hb => by rw [hs2]; exact hPb b hb
      have hvn : ∀ b, v.ownBlock = some b → ¬ (RB b ∨ Pv b) := fun b hb h => by
        rcases h with h | h
        · have h1 := hrow.lt b hb
          have h2 := hRr b h h1.1
          rw [h2] at hb
          exact (hK2.boxed b1 hRi).not_row (by decide) hrow hb.symm
        · exact hnv b hb h
      clear hk2 hk2' hs2 hr hKW
      obtain ⟨Wd, hWd⟩ : ∃ Wd, W2.drew = Wd := ⟨_, rfl⟩
      have hkd : ∀ S, Keep S W2 Wd := fun S => by rw [← hWd]; exact Keep.drew S W2
      replace hbx := (hkd (fun _ => True)).boxed hbx trivial
      replace hrow := (hkd (fun _ => True)).row hrow (fun _ _ => trivial)
      have hKd := hK2.trans (hkd RB)
      replace hPl2 : ∀ b, Pv b → b < Wd.heap.size := fun b hb => by rw [← hWd]; exact hPl2 b hb
      replace hbp := hKd.boxed hbp (hRo _ (by omega))
      have cB := hbx.cell
      have hS := hbp.cell
      have hszW := hKd.size
      have hwW : w.heap.size + 1 ≤ Wd.heap.size := by omega
      have HWd := Lib.hid hWd
      have c1 := isFree_any x
      have c2 := stands_any x p
      have c3 := fun s => appendByte_any (w.heap.size + 1) v (canL p pre) x s Wd hrow hwW hpl
      obtain ⟨z1, H1⟩ : ∃ z, Hid (freeB x = z) := ⟨_, rfl⟩
      obtain ⟨z2, H2⟩ : ∃ z, Hid (standsB p x = z) := ⟨_, rfl⟩
      rw [H1.out] at c1
      rw [H2.out] at c2
      have hcb : canB p (x, cd) = (z1 || (!cd && z2)) := by unfold canB; rw [H1.out, H2.out]
      clear hWd H1 H2
      gi_wp2_with fail
      refine region_any (fun X => X.cell? ⟨w.heap.size, 0, none⟩ = some (.int .i64 p)) (by kernel_rfl) ?_
      rw [HWd.out]
      cases z1
      · cases cd
        · have HC := Lib.hid (show canB p (x, false) = z2 by rw [hcb]; rfl)
          clear hcb
          refine anyC_take 1 (v := (.int .u8 (x.toNat : Int))) rfl (by kernel_rfl) (by kernel_rfl) (by kernel_rfl) (by kernel_rfl) (fun _ _ _ h => h) (.inl ⟨by rfl, fun X hX => ⟨fun _ _ => trivial, .inl ?_⟩⟩) hS ?_
          · go_simp
          simp only [Act.put, List.getElem_toArray, List.getElem_cons_zero, List.getElem_cons_succ, List.setIfInBounds_toArray, List.set_cons_zero, List.set_cons_succ]
          refine anyH_list #[false, true, false, false, false, false, false, false, false, false, false, false, false, false, false] (by kernel_rfl) ?_
          refine anyC_take 2 (v := (.int .u8 (x.toNat : Int))) rfl (by kernel_rfl) (by kernel_rfl) (by kernel_rfl) (by kernel_rfl) (fun _ _ _ h => h) (.inl ⟨by rfl, fun X hX => ⟨fun _ _ => trivial, .inl ?_⟩⟩) hS ?_
          · go_simp
          simp only [Act.put, List.getElem_toArray, List.getElem_cons_zero, List.getElem_cons_succ, List.setIfInBounds_toArray, List.set_cons_zero, List.set_cons_succ]
          refine anyH_list #[false, true, true, false, false, false, false, false, false, false, false, false, false, false, false] (by kernel_rfl) ?_
          refine anyC_take 3 (v := (.bool false)) rfl (by kernel_rfl) (by kernel_rfl) (by kernel_rfl) (by kernel_rfl) (fun _ _ _ h => h) (.inl ⟨by rfl, fun X hX => ⟨fun _ _ => trivial, .inr ⟨139, #[.int .u8 (x.toNat : Int)], ?_, (fun h => by cases h), (CallsIn.inRound ll (callsIn_wide.2 (c1 X))).mono (fun _ _ h => ⟨h.1, h.2.symm⟩)⟩⟩⟩) hS ?_
          · go_simp
          simp only [Act.put, List.getElem_toArray, List.getElem_cons_zero, List.getElem_cons_succ, List.setIfInBounds_toArray, List.set_cons_zero, List.set_cons_succ]
          refine anyH_list #[false, true, true, true, false, false, false, false, false, false, false, false, false, false, false] (by kernel_rfl) ?_
          refine anyC_take 4 (v := (.bool false)) rfl (by kernel_rfl) (by kernel_rfl) (by kernel_rfl) (by kernel_rfl) (fun _ _ _ h => h) (.inl ⟨by rfl, fun X hX => ⟨fun _ _ => trivial, .inl ?_⟩⟩) hS ?_
          · go_simp
          simp only [Act.put, List.getElem_toArray, List.getElem_cons_zero, List.getElem_cons_succ, List.setIfInBounds_toArray, List.set_cons_zero, List.set_cons_succ]
          refine anyH_list #[false, true, true, true, true, false, false, false, false, false, false, false, false, false, false] (by kernel_rfl) ?_
          refine anyC_take 5 (v := (.bool false)) rfl (by kernel_rfl) (by kernel_rfl) (by kernel_rfl) (by kernel_rfl) (fun _ _ _ h => h) (.inl ⟨by rfl, fun X hX => ⟨fun _ _ => trivial, .inl ?_⟩⟩) hS ?_
          · go_simp
          simp only [Act.put, List.getElem_toArray, List.getElem_cons_zero, List.getElem_cons_succ, List.setIfInBounds_toArray, List.set_cons_zero, List.set_cons_succ]
          refine anyH_list #[false, true, true, true, true, true, false, false, false, false, false, false, false, false, false] (by kernel_rfl) ?_
          refine anyC_take 6 (v := (.bool true)) rfl (by kernel_rfl) (by kernel_rfl) (by kernel_rfl) (by kernel_rfl) (fun _ _ _ h => h) (.inl ⟨by rfl, fun X hX => ⟨fun _ _ => trivial, .inl ?_⟩⟩) hS ?_
          · go_simp
          simp only [Act.put, List.getElem_toArray, List.getElem_cons_zero, List.getElem_cons_succ, List.setIfInBounds_toArray, List.set_cons_zero, List.set_cons_succ]
          refine anyH_list #[false, true, true, true, true, true, true, false, false, false, false, false, false, false, false] (by kernel_rfl) ?_
          refine anyC_take 7 (v := (.bool true)) rfl (by kernel_rfl) (by kernel_rfl) (by kernel_rfl) (by kernel_rfl) (fun _ _ _ h => h) (.inl ⟨by rfl, fun X hX => ⟨fun _ _ => trivial, .inl ?_⟩⟩) hS ?_
          · go_simp
          simp only [Act.put, List.getElem_toArray, List.getElem_cons_zero, List.getElem_cons_succ, List.setIfInBounds_toArray, List.set_cons_zero, List.set_cons_succ]
          refine anyH_list #[false, true, true, true, true, true, true, true, false, false, false, false, false, false, false] (by kernel_rfl) ?_
          refine anyC_take 8 (v := (.int .u8 (x.toNat : Int))) rfl (by kernel_rfl) (by kernel_rfl) (by kernel_rfl) (by kernel_rfl) (fun _ _ _ h => h) (.inl ⟨by rfl, fun X hX => ⟨fun _ _ => trivial, .inl ?_⟩⟩) hS ?_
          · go_simp
          simp only [Act.put, List.getElem_toArray, List.getElem_cons_zero, List.getElem_cons_succ, List.setIfInBounds_toArray, List.set_cons_zero, List.set_cons_succ]
          refine anyH_list #[false, true, true, true, true, true, true, true, true, false, false, false, false, false, false] (by kernel_rfl) ?_
          refine anyC_take 9 (v := (.int .i64 p)) rfl (by kernel_rfl) (by kernel_rfl) (by kernel_rfl) (by kernel_rfl) (fun _ _ _ h => h) (.inl ⟨by rfl, fun X hX => ⟨fun _ _ => trivial, .inl ?_⟩⟩) hS ?_
          · go_simp
          simp only [Act.put, List.getElem_toArray, List.getElem_cons_zero, List.getElem_cons_succ, List.setIfInBounds_toArray, List.set_cons_zero, List.set_cons_succ]
          refine anyH_list #[false, true, true, true, true, true, true, true, true, true, false, false, false, false, false] (by kernel_rfl) ?_
          refine anyC_take 10 (v := (.bool z2)) rfl (by kernel_rfl) (by kernel_rfl) (by kernel_rfl) (by kernel_rfl) (fun _ _ _ h => h) (.inl ⟨by rfl, fun X hX => ⟨fun _ _ => trivial, .inr ⟨140, #[.int .u8 (x.toNat : Int), .int .i64 p], ?_, (fun h => by cases h), (CallsIn.inRound ll (callsIn_wide.2 (c2 X))).mono (fun _ _ h => ⟨h.1, h.2.symm⟩)⟩⟩⟩) hS ?_
          · go_simp
          simp only [Act.put, List.getElem_toArray, List.getElem_cons_zero, List.getElem_cons_succ, List.setIfInBounds_toArray, List.set_cons_zero, List.set_cons_succ]
          refine anyH_list #[false, true, true, true, true, true, true, true, true, true, true, false, false, false, false] (by kernel_rfl) ?_
          refine anyC_take 11 (v := (.bool z2)) rfl (by kernel_rfl) (by kernel_rfl) (by kernel_rfl) (by kernel_rfl) (fun _ _ _ h => h) (.inl ⟨by rfl, fun X hX => ⟨fun _ _ => trivial, .inl ?_⟩⟩) hS ?_
          · go_simp
          simp only [Act.put, List.getElem_toArray, List.getElem_cons_zero, List.getElem_cons_succ, List.setIfInBounds_toArray, List.set_cons_zero, List.set_cons_succ]
          refine anyH_list #[false, true, true, true, true, true, true, true, true, true, true, true, false, false, false] (by kernel_rfl) ?_
          refine anyC_take 12 (v := (.bool z2)) rfl (by kernel_rfl) (by kernel_rfl) (by kernel_rfl) (by kernel_rfl) (fun _ _ _ h => h) (.inl ⟨by rfl, fun X hX => ⟨fun _ _ => trivial, .inl ?_⟩⟩) hS ?_
          · go_simp
          simp only [Act.put, List.getElem_toArray, List.getElem_cons_zero, List.getElem_cons_succ, List.setIfInBounds_toArray, List.set_cons_zero, List.set_cons_succ]
          refine anyH_list #[false, true, true, true, true, true, true, true, true, true, true, true, true, false, false] (by kernel_rfl) ?_
          refine anyH_one 0 (by kernel_rfl) rfl fun K hK => ?_
          go_simp
          refine hK _ _ hS ?_
          clear hK K
          refine anyH_list #[true, true, true, true, true, true, true, true, true, true, true, true, true, false, false] (by kernel_rfl) ?_
          refine anyH_one 13 (by kernel_rfl) rfl fun K hK => ?_
          go_simp
          refine ⟨trivial, rfl, (CallsIn.inRound ll (callsIn_wide.2 (c3 z2))).mono ?_⟩
          rintro e w3 ⟨v', rfl, hr3, hG⟩
          obtain ⟨nt, hnt⟩ : ∃ nt, canL p pre ++ putL z2 x = nt := ⟨_, rfl⟩
          rw [hnt] at hr3
          have HN := Lib.hid hnt
          clear hnt
          obtain ⟨q3, cc3, rfl, _⟩ := row_open hr3
          obtain ⟨hv1, hv2, hr2, hkk⟩ := grown_keep (S := fun b => RB b ∨ Pv b) hbx (by decide) hrow (fun h => h.elim hRn (hnP _ (by omega))) hvn hr3 hG
          have hS3 := ((hG.1 (fun b => b = w.heap.size) (fun b hb h => by have := (hrow.lt b hb).1; omega)).boxed hbp rfl).cell
          have hS4 := (hkk.boxed hbp (.inl (hRo _ (by omega)))).cell
          have hc1 := hv1.cell
          have hf1 := hv1.frozen
          refine hK _ _ hS3 ?_
          clear hK K
          refine anyH_list #[true, true, true, true, true, true, true, true, true, true, true, true, true, true, false] (by kernel_rfl) ?_
          refine anyH_one 14 (by kernel_rfl) rfl fun K hK => ?_
          go_simp
          refine hK _ _ hS4 ?_
          clear hK K
          refine anyH_done (by kernel_rfl) ?_ _
          clear hS3 hc1 hf1 c1 c2 c3
          gi_wp2
          refine ⟨(hkd _).trans hkk, _, hv2, ?_, fun b hb => hge b hb, fun b hb hp => ?_, hKd.trans (hkk.mono fun b _ h => .inl h)⟩
          · rw [can_one, HC.out, HN.out]; exact hr2
          · rcases hG.2 b hb with h | h
            · exact hnv b h hp
            · have h5 := hPl2 _ hp; omega
        · have HC := Lib.hid (show canB p (x, true) = false by rw [hcb]; rfl)
          clear hcb
          refine anyC_take 1 (v := (.int .u8 (x.toNat : Int))) rfl (by kernel_rfl) (by kernel_rfl) (by kernel_rfl) (by kernel_rfl) (fun _ _ _ h => h) (.inl ⟨by rfl, fun X hX => ⟨fun _ _ => trivial, .inl ?_⟩⟩) hS ?_
          · go_simp
          simp only [Act.put, List.getElem_toArray, List.getElem_cons_zero, List.getElem_cons_succ, List.setIfInBounds_toArray, List.set_cons_zero, List.set_cons_succ]
          refine anyH_list #[false, true, false, false, false, false, false, false, false, false, false, false, false, false, false] (by kernel_rfl) ?_
          refine anyC_take 2 (v := (.int .u8 (x.toNat : Int))) rfl (by kernel_rfl) (by kernel_rfl) (by kernel_rfl) (by kernel_rfl) (fun _ _ _ h => h) (.inl ⟨by rfl, fun X hX => ⟨fun _ _ => trivial, .inl ?_⟩⟩) hS ?_
          · go_simp
          simp only [Act.put, List.getElem_toArray, List.getElem_cons_zero, List.getElem_cons_succ, List.setIfInBounds_toArray, List.set_cons_zero, List.set_cons_succ]
          refine anyH_list #[false, true, true, false, false, false, false, false, false, false, false, false, false, false, false] (by kernel_rfl) ?_
          refine anyC_take 3 (v := (.bool false)) rfl (by kernel_rfl) (by kernel_rfl) (by kernel_rfl) (by kernel_rfl) (fun _ _ _ h => h) (.inl ⟨by rfl, fun X hX => ⟨fun _ _ => trivial, .inr ⟨139, #[.int .u8 (x.toNat : Int)], ?_, (fun h => by cases h), (CallsIn.inRound ll (callsIn_wide.2 (c1 X))).mono (fun _ _ h => ⟨h.1, h.2.symm⟩)⟩⟩⟩) hS ?_
          · go_simp
          simp only [Act.put, List.getElem_toArray, List.getElem_cons_zero, List.getElem_cons_succ, List.setIfInBounds_toArray, List.set_cons_zero, List.set_cons_succ]
          refine anyH_list #[false, true, true, true, false, false, false, false, false, false, false, false, false, false, false] (by kernel_rfl) ?_
          refine anyC_take 4 (v := (.bool false)) rfl (by kernel_rfl) (by kernel_rfl) (by kernel_rfl) (by kernel_rfl) (fun _ _ _ h => h) (.inl ⟨by rfl, fun X hX => ⟨fun _ _ => trivial, .inl ?_⟩⟩) hS ?_
          · go_simp
          simp only [Act.put, List.getElem_toArray, List.getElem_cons_zero, List.getElem_cons_succ, List.setIfInBounds_toArray, List.set_cons_zero, List.set_cons_succ]
          refine anyH_list #[false, true, true, true, true, false, false, false, false, false, false, false, false, false, false] (by kernel_rfl) ?_
          refine anyC_take 5 (v := (.bool true)) rfl (by kernel_rfl) (by kernel_rfl) (by kernel_rfl) (by kernel_rfl) (fun _ _ _ h => h) (.inl ⟨by rfl, fun X hX => ⟨fun _ _ => trivial, .inl ?_⟩⟩) hS ?_
          · go_simp
          simp only [Act.put, List.getElem_toArray, List.getElem_cons_zero, List.getElem_cons_succ, List.setIfInBounds_toArray, List.set_cons_zero, List.set_cons_succ]
          refine anyH_list #[false, true, true, true, true, true, false, false, false, false, false, false, false, false, false] (by kernel_rfl) ?_
          refine anyC_take 6 (v := (.bool false)) rfl (by kernel_rfl) (by kernel_rfl) (by kernel_rfl) (by kernel_rfl) (fun _ _ _ h => h) (.inl ⟨by rfl, fun X hX => ⟨fun _ _ => trivial, .inl ?_⟩⟩) hS ?_
          · go_simp
          simp only [Act.put, List.getElem_toArray, List.getElem_cons_zero, List.getElem_cons_succ, List.setIfInBounds_toArray, List.set_cons_zero, List.set_cons_succ]
          refine anyH_list #[false, true, true, true, true, true, true, false, false, false, false, false, false, false, false] (by kernel_rfl) ?_
          refine anyC_take 7 (v := (.bool false)) rfl (by kernel_rfl) (by kernel_rfl) (by kernel_rfl) (by kernel_rfl) (fun _ _ _ h => h) (.inl ⟨by rfl, fun X hX => ⟨fun _ _ => trivial, .inl ?_⟩⟩) hS ?_
          · go_simp
          simp only [Act.put, List.getElem_toArray, List.getElem_cons_zero, List.getElem_cons_succ, List.setIfInBounds_toArray, List.set_cons_zero, List.set_cons_succ]
          refine anyH_list #[false, true, true, true, true, true, true, true, false, false, false, false, false, false, false] (by kernel_rfl) ?_
          refine anyC_take 8 (v := undef) rfl (by kernel_rfl) (by kernel_rfl) (by kernel_rfl) (by kernel_rfl) (fun _ _ _ h => h) (.inr ⟨by rfl, rfl, fun _ _ _ => trivial⟩) hS ?_
          simp only [Act.put, List.getElem_toArray, List.getElem_cons_zero, List.getElem_cons_succ, List.setIfInBounds_toArray, List.set_cons_zero, List.set_cons_succ]
          refine anyH_list #[false, true, true, true, true, true, true, true, true, false, false, false, false, false, false] (by kernel_rfl) ?_
          refine anyC_take 9 (v := undef) rfl (by kernel_rfl) (by kernel_rfl) (by kernel_rfl) (by kernel_rfl) (fun _ _ _ h => h) (.inr ⟨by rfl, rfl, fun _ _ _ => trivial⟩) hS ?_
          simp only [Act.put, List.getElem_toArray, List.getElem_cons_zero, List.getElem_cons_succ, List.setIfInBounds_toArray, List.set_cons_zero, List.set_cons_succ]
          refine anyH_list #[false, true, true, true, true, true, true, true, true, true, false, false, false, false, false] (by kernel_rfl) ?_
          refine anyC_take 10 (v := undef) rfl (by kernel_rfl) (by kernel_rfl) (by kernel_rfl) (by kernel_rfl) (fun _ _ _ h => h) (.inr ⟨by rfl, rfl, fun _ _ _ => trivial⟩) hS ?_
          simp only [Act.put, List.getElem_toArray, List.getElem_cons_zero, List.getElem_cons_succ, List.setIfInBounds_toArray, List.set_cons_zero, List.set_cons_succ]
          refine anyH_list #[false, true, true, true, true, true, true, true, true, true, true, false, false, false, false] (by kernel_rfl) ?_
          refine anyC_take 11 (v := (.bool false)) rfl (by kernel_rfl) (by kernel_rfl) (by kernel_rfl) (by kernel_rfl) (fun _ _ _ h => h) (.inl ⟨by rfl, fun X hX => ⟨fun _ _ => trivial, .inl ?_⟩⟩) hS ?_
          · go_simp
          simp only [Act.put, List.getElem_toArray, List.getElem_cons_zero, List.getElem_cons_succ, List.setIfInBounds_toArray, List.set_cons_zero, List.set_cons_succ]
          refine anyH_list #[false, true, true, true, true, true, true, true, true, true, true, true, false, false, false] (by kernel_rfl) ?_
          refine anyC_take 12 (v := (.bool false)) rfl (by kernel_rfl) (by kernel_rfl) (by kernel_rfl) (by kernel_rfl) (fun _ _ _ h => h) (.inl ⟨by rfl, fun X hX => ⟨fun _ _ => trivial, .inl ?_⟩⟩) hS ?_
          · go_simp
          simp only [Act.put, List.getElem_toArray, List.getElem_cons_zero, List.getElem_cons_succ, List.setIfInBounds_toArray, List.set_cons_zero, List.set_cons_succ]
          refine anyH_list #[false, true, true, true, true, true, true, true, true, true, true, true, true, false, false] (by kernel_rfl) ?_
          refine anyH_one 0 (by kernel_rfl) rfl fun K hK => ?_
          go_simp
          refine hK _ _ hS ?_
          clear hK K
          refine anyH_list #[true, true, true, true, true, true, true, true, true, true, true, true, true, false, false] (by kernel_rfl) ?_
          refine anyH_one 13 (by kernel_rfl) rfl fun K hK => ?_
          go_simp
          refine ⟨trivial, rfl, (CallsIn.inRound ll (callsIn_wide.2 (c3 false))).mono ?_⟩
          rintro e w3 ⟨v', rfl, hr3, hG⟩
          obtain ⟨nt, hnt⟩ : ∃ nt, canL p pre ++ putL false x = nt := ⟨_, rfl⟩
          rw [hnt] at hr3
          have HN := Lib.hid hnt
          clear hnt
          obtain ⟨q3, cc3, rfl, _⟩ := row_open hr3
          obtain ⟨hv1, hv2, hr2, hkk⟩ := grown_keep (S := fun b => RB b ∨ Pv b) hbx (by decide) hrow (fun h => h.elim hRn (hnP _ (by omega))) hvn hr3 hG
          have hS3 := ((hG.1 (fun b => b = w.heap.size) (fun b hb h => by have := (hrow.lt b hb).1; omega)).boxed hbp rfl).cell
          have hS4 := (hkk.boxed hbp (.inl (hRo _ (by omega)))).cell
          have hc1 := hv1.cell
          have hf1 := hv1.frozen
          refine hK _ _ hS3 ?_
          clear hK K
          refine anyH_list #[true, true, true, true, true, true, true, true, true, true, true, true, true, true, false] (by kernel_rfl) ?_
          refine anyH_one 14 (by kernel_rfl) rfl fun K hK => ?_
          go_simp
          refine hK _ _ hS4 ?_
          clear hK K
          refine anyH_done (by kernel_rfl) ?_ _
          clear hS3 hc1 hf1 c1 c2 c3
          gi_wp2
          refine ⟨(hkd _).trans hkk, _, hv2, ?_, fun b hb => hge b hb, fun b hb hp => ?_, hKd.trans (hkk.mono fun b _ h => .inl h)⟩
          · rw [can_one, HC.out, HN.out]; exact hr2
          · rcases hG.2 b hb with h | h
            · exact hnv b h hp
            · have h5 := hPl2 _ hp; omega
      · have HC := Lib.hid (show canB p (x, cd) = true by rw [hcb]; rfl)
        clear hcb
        refine anyC_take 1 (v := (.int .u8 (x.toNat : Int))) rfl (by kernel_rfl) (by kernel_rfl) (by kernel_rfl) (by kernel_rfl) (fun _ _ _ h => h) (.inl ⟨by rfl, fun X hX => ⟨fun _ _ => trivial, .inl ?_⟩⟩) hS ?_
        · go_simp
        simp only [Act.put, List.getElem_toArray, List.getElem_cons_zero, List.getElem_cons_succ, List.setIfInBounds_toArray, List.set_cons_zero, List.set_cons_succ]
        refine anyH_list #[false, true, false, false, false, false, false, false, false, false, false, false, false, false, false] (by kernel_rfl) ?_
        refine anyC_take 2 (v := (.int .u8 (x.toNat : Int))) rfl (by kernel_rfl) (by kernel_rfl) (by kernel_rfl) (by kernel_rfl) (fun _ _ _ h => h) (.inl ⟨by rfl, fun X hX => ⟨fun _ _ => trivial, .inl ?_⟩⟩) hS ?_
        · go_simp
        simp only [Act.put, List.getElem_toArray, List.getElem_cons_zero, List.getElem_cons_succ, List.setIfInBounds_toArray, List.set_cons_zero, List.set_cons_succ]
        refine anyH_list #[false, true, true, false, false, false, false, false, false, false, false, false, false, false, false] (by kernel_rfl) ?_
        refine anyC_take 3 (v := (.bool true)) rfl (by kernel_rfl) (by kernel_rfl) (by kernel_rfl) (by kernel_rfl) (fun _ _ _ h => h) (.inl ⟨by rfl, fun X hX => ⟨fun _ _ => trivial, .inr ⟨139, #[.int .u8 (x.toNat : Int)], ?_, (fun h => by cases h), (CallsIn.inRound ll (callsIn_wide.2 (c1 X))).mono (fun _ _ h => ⟨h.1, h.2.symm⟩)⟩⟩⟩) hS ?_
        · go_simp
        simp only [Act.put, List.getElem_toArray, List.getElem_cons_zero, List.getElem_cons_succ, List.setIfInBounds_toArray, List.set_cons_zero, List.set_cons_succ]
        refine anyH_list #[false, true, true, true, false, false, false, false, false, false, false, false, false, false, false] (by kernel_rfl) ?_
        refine anyC_take 4 (v := (.bool true)) rfl (by kernel_rfl) (by kernel_rfl) (by kernel_rfl) (by kernel_rfl) (fun _ _ _ h => h) (.inl ⟨by rfl, fun X hX => ⟨fun _ _ => trivial, .inl ?_⟩⟩) hS ?_
        · go_simp
        simp only [Act.put, List.getElem_toArray, List.getElem_cons_zero, List.getElem_cons_succ, List.setIfInBounds_toArray, List.set_cons_zero, List.set_cons_succ]
        refine anyH_list #[false, true, true, true, true, false, false, false, false, false, false, false, false, false, false] (by kernel_rfl) ?_
        refine anyC_take 5 (v := undef) rfl (by kernel_rfl) (by kernel_rfl) (by kernel_rfl) (by kernel_rfl) (fun _ _ _ h => h) (.inr ⟨by rfl, rfl, fun _ _ _ => trivial⟩) hS ?_
        simp only [Act.put, List.getElem_toArray, List.getElem_cons_zero, List.getElem_cons_succ, List.setIfInBounds_toArray, List.set_cons_zero, List.set_cons_succ]
        refine anyH_list #[false, true, true, true, true, true, false, false, false, false, false, false, false, false, false] (by kernel_rfl) ?_
        refine anyC_take 6 (v := undef) rfl (by kernel_rfl) (by kernel_rfl) (by kernel_rfl) (by kernel_rfl) (fun _ _ _ h => h) (.inr ⟨by rfl, rfl, fun _ _ _ => trivial⟩) hS ?_
        simp only [Act.put, List.getElem_toArray, List.getElem_cons_zero, List.getElem_cons_succ, List.setIfInBounds_toArray, List.set_cons_zero, List.set_cons_succ]
        refine anyH_list #[false, true, true, true, true, true, true, false, false, false, false, false, false, false, false] (by kernel_rfl) ?_
        refine anyC_take 7 (v := undef) rfl (by kernel_rfl) (by kernel_rfl) (by kernel_rfl) (by kernel_rfl) (fun _ _ _ h => h) (.inr ⟨by rfl, rfl, fun _ _ _ => trivial⟩) hS ?_
        simp only [Act.put, List.getElem_toArray, List.getElem_cons_zero, List.getElem_cons_succ, List.setIfInBounds_toArray, List.set_cons_zero, List.set_cons_succ]
        refine anyH_list #[false, true, true, true, true, true, true, true, false, false, false, false, false, false, false] (by kernel_rfl) ?_
        refine anyC_take 8 (v := undef) rfl (by kernel_rfl) (by kernel_rfl) (by kernel_rfl) (by kernel_rfl) (fun _ _ _ h => h) (.inr ⟨by rfl, rfl, fun _ _ _ => trivial⟩) hS ?_
        simp only [Act.put, List.getElem_toArray, List.getElem_cons_zero, List.getElem_cons_succ, List.setIfInBounds_toArray, List.set_cons_zero, List.set_cons_succ]
        refine anyH_list #[false, true, true, true, true, true, true, true, true, false, false, false, false, false, false] (by kernel_rfl) ?_
        refine anyC_take 9 (v := undef) rfl (by kernel_rfl) (by kernel_rfl) (by kernel_rfl) (by kernel_rfl) (fun _ _ _ h => h) (.inr ⟨by rfl, rfl, fun _ _ _ => trivial⟩) hS ?_
        simp only [Act.put, List.getElem_toArray, List.getElem_cons_zero, List.getElem_cons_succ, List.setIfInBounds_toArray, List.set_cons_zero, List.set_cons_succ]
        refine anyH_list #[false, true, true, true, true, true, true, true, true, true, false, false, false, false, false] (by kernel_rfl) ?_
        refine anyC_take 10 (v := undef) rfl (by kernel_rfl) (by kernel_rfl) (by kernel_rfl) (by kernel_rfl) (fun _ _ _ h => h) (.inr ⟨by rfl, rfl, fun _ _ _ => trivial⟩) hS ?_
        simp only [Act.put, List.getElem_toArray, List.getElem_cons_zero, List.getElem_cons_succ, List.setIfInBounds_toArray, List.set_cons_zero, List.set_cons_succ]
        refine anyH_list #[false, true, true, true, true, true, true, true, true, true, true, false, false, false, false] (by kernel_rfl) ?_
        refine anyC_take 11 (v := undef) rfl (by kernel_rfl) (by kernel_rfl) (by kernel_rfl) (by kernel_rfl) (fun _ _ _ h => h) (.inr ⟨by rfl, rfl, fun _ _ _ => trivial⟩) hS ?_
        simp only [Act.put, List.getElem_toArray, List.getElem_cons_zero, List.getElem_cons_succ, List.setIfInBounds_toArray, List.set_cons_zero, List.set_cons_succ]
        refine anyH_list #[false, true, true, true, true, true, true, true, true, true, true, true, false, false, false] (by kernel_rfl) ?_
        refine anyC_take 12 (v := (.bool true)) rfl (by kernel_rfl) (by kernel_rfl) (by kernel_rfl) (by kernel_rfl) (fun _ _ _ h => h) (.inl ⟨by rfl, fun X hX => ⟨fun _ _ => trivial, .inl ?_⟩⟩) hS ?_
        · go_simp
        simp only [Act.put, List.getElem_toArray, List.getElem_cons_zero, List.getElem_cons_succ, List.setIfInBounds_toArray, List.set_cons_zero, List.set_cons_succ]
        refine anyH_list #[false, true, true, true, true, true, true, true, true, true, true, true, true, false, false] (by kernel_rfl) ?_
        refine anyH_one 0 (by kernel_rfl) rfl fun K hK => ?_
        go_simp
        refine hK _ _ hS ?_
        clear hK K
        refine anyH_list #[true, true, true, true, true, true, true, true, true, true, true, true, true, false, false] (by kernel_rfl) ?_
        refine anyH_one 13 (by kernel_rfl) rfl fun K hK => ?_
        go_simp
        refine ⟨trivial, rfl, (CallsIn.inRound ll (callsIn_wide.2 (c3 true))).mono ?_⟩
        rintro e w3 ⟨v', rfl, hr3, hG⟩
        obtain ⟨nt, hnt⟩ : ∃ nt, canL p pre ++ putL true x = nt := ⟨_, rfl⟩
        rw [hnt] at hr3
        have HN := Lib.hid hnt
        clear hnt
        obtain ⟨q3, cc3, rfl, _⟩ := row_open hr3
        obtain ⟨hv1, hv2, hr2, hkk⟩ := grown_keep (S := fun b => RB b ∨ Pv b) hbx (by decide) hrow (fun h => h.elim hRn (hnP _ (by omega))) hvn hr3 hG
        have hS3 := ((hG.1 (fun b => b = w.heap.size) (fun b hb h => by have := (hrow.lt b hb).1; omega)).boxed hbp rfl).cell
        have hS4 := (hkk.boxed hbp (.inl (hRo _ (by omega)))).cell
        have hc1 := hv1.cell
        have hf1 := hv1.frozen
        refine hK _ _ hS3 ?_
        clear hK K
        refine anyH_list #[true, true, true, true, true, true, true, true, true, true, true, true, true, true, false] (by kernel_rfl) ?_
        refine anyH_one 14 (by kernel_rfl) rfl fun K hK => ?_
        go_simp
        refine hK _ _ hS4 ?_
        clear hK K
        refine anyH_done (by kernel_rfl) ?_ _
        clear hS3 hc1 hf1 c1 c2 c3
        gi_wp2
        refine ⟨(hkd _).trans hkk, _, hv2, ?_, fun b hb => hge b hb, fun b hb hp => ?_, hKd.trans (hkk.mono fun b _ h => .inl h)⟩
        · rw [can_one, HC.out, HN.out]; exact hr2
        · rcases hG.2 b hb with h | h
          · exact hnv b h hp
          · have h5 := hPl2 _ hp; omega
    case done =>
      rintro D Pv Wd hD hPD hPl ⟨v, hbx, hrow, hge, hnv, hKW⟩ hK
      have cB := hbx.cell
      clear b0 b1 own0 hb0
      gi_wp2
      refine ⟨by simp, .inl ⟨_, _, rfl, run_takeDeferred hK, ?_⟩⟩
      refine ⟨_, results_tmp2 rfl _ _ _, v, 0, rfl, Lib.hid (by rw [HM.out]; rfl), ?_, ?_⟩
      · rw [HM.out]
        exact row_base ((Keep.putObj (S := fun b => ¬ Pv b) Wd D _ (fun h => h hPD)).row hrow hnv) (by omega)
      · exact (((((hkp (fun b => b < w.heap.size)).trans (hk0 _)).trans (hKW.mono fun b _ h => hRo b (by omega)))).trans (Keep.putObj _ _ _ (by omega))).below (Nat.le_refl _)
    case stop =>
      rintro D c pre rest Pv Wd _ _ _ _ h _
      exact h.elim
end Go.Proofs.YtniehbjoogaccaaGreatDoor.Pct
namespace Go.Proofs.YtniehbjoogaccaaGreatDoor
open Go.RowKit Go.Shelf
theorem bytes_lit {w : World} (cs : Array Value) (l : List UInt8) (fr : Nat × Nat) (h : cs.toList = (Lib.numsL l).map (Value.int .u8)) : Lib.BytesIn (w.alloc (.cells cs 5 fr)) (some ⟨w.heap.size, 0, none⟩) l.length (Lib.numsL l) := fun _ =>
  ⟨_, _, rfl, fun i hi => by
    have hi' : i < (Lib.numsL l).length := by rw [Lib.numsL_length]; exact hi
    rw [Nat.zero_add, World.cell?_alloc_mark, ← Array.getElem?_toList, h]
    simp [List.getElem?_eq_getElem hi', List.getD]⟩
end Go.Proofs.YtniehbjoogaccaaGreatDoor
namespace Go.Proofs.YtniehbjoogaccaaGreatDoor
open Go.RowKit Go.Shelf
def piecesOf (l : List UInt8) (xs : List (Nat × Nat)) : List (List UInt8) := xs.map fun x => sub l x.1 x.2
theorem sub_snoc (l : List UInt8) (f k : Nat) (hf : f ≤ k) (hk : k < l.length) : sub l f (k + 1) = sub l f k ++ [l.getD k 0] := by
  unfold sub
  rw [show k + 1 - f = (k - f) + 1 from by omega, List.take_succ_eq_append_getElem (by simp; omega)]
  simp [List.getD, List.getElem?_eq_getElem hk]
  congr 1
  omega
theorem sub_nil (l : List UInt8) (k : Nat) : sub l k k = [] := by unfold sub; simp
end Go.Proofs.YtniehbjoogaccaaGreatDoor
namespace Go.Proofs.YtniehbjoogaccaaGreatDoor.Ck
open Url Hdr
set_option linter.unusedVariables false
structure Ck where
  name : List UInt8
  value : List UInt8
  path : List UInt8
  dom : List UInt8
  age : Int
  secure : Bool
def valB (b : UInt8) : Bool := decide (33 ≤ b.toNat ∧ b.toNat ≤ 126) && b != 34 && b != 44 && b != 59 && b != 92
def keyL (p : List UInt8) : List UInt8 := Ref.lowL (trimB (aheadL 61 p))
def txtL (p : List UInt8) : List UInt8 := trimB ((Host.tailL 61 p).getD [])
def pathS : List UInt8 := [112, 97, 116, 104]
def domS : List UInt8 := [100, 111, 109, 97, 105, 110]
def ageS : List UInt8 := [109, 97, 120, 45, 97, 103, 101]
def secS : List UInt8 := [115, 101, 99, 117, 114, 101]
def attr (c : Ck) (p : List UInt8) : Option Ck :=
  if keyL p = pathS then some { c with path := if (txtL p).head? = some 47 then txtL p else [] }
  else if keyL p = domS then (if Host.parseE (txtL p) = 0 then some { c with dom := Ref.lowL (txtL p) } else none)
  else if keyL p = ageS then (match Ref.numOf 1073741824 (txtL p) with | some n => some { c with age := n } | none => none)
  else if keyL p = secS then some { c with secure := true } else some c
def attrs : Ck → List (List UInt8) → Option Ck
  | c, [] => some c
  | c, p :: r => match attr c p with | some d => attrs d r | none => none
def headC (p : List UInt8) : Option Ck := if (61 : UInt8) ∈ p ∧ tokL (trimB (aheadL 61 p)) = true ∧ (txtL p).all valB = true then some ⟨trimB (aheadL 61 p), txtL p, [], [], -1, false⟩ else none
def pathP (c : Ck) : List (List UInt8) := if c.path = [] then [] else [[32, 80, 97, 116, 104] ++ 61 :: c.path]
def domP (c : Ck) : List (List UInt8) := if c.dom = [] then [] else [[32, 68, 111, 109, 97, 105, 110] ++ 61 :: c.dom]
def ageP (c : Ck) : List (List UInt8) := if c.age < 0 then [] else [[32, 77, 97, 120, 45, 65, 103, 101] ++ 61 :: digL c.age.toNat]
def secP (c : Ck) : List (List UInt8) := if c.secure = true then [[32, 83, 101, 99, 117, 114, 101]] else []
def textC (c : Ck) : List UInt8 := Ref.joinL 59 ((c.name ++ 61 :: c.value) :: (pathP c ++ (domP c ++ (ageP c ++ secP c))))
def cookieL (t : List UInt8) : Option Ck := match Ref.splitL 59 t with
  | [] => none
  | p :: r => match headC p with
    | none => none
    | some c => attrs c r
def parseC (t : List UInt8) : Sum Int Ck := if 4096 < t.length then .inl 3 else match cookieL t with
  | none => .inl 2
  | some d => if 4096 < (textC d).length then .inl 3 else .inr d
structure Ok (c : Ck) : Prop where
  name : tokL c.name = true
  value : c.value.all valB = true
  path : c.path = [] ∨ (c.path.head? = some 47 ∧ trimB c.path = c.path ∧ (59 : UInt8) ∉ c.path)
  dom : c.dom = [] ∨ (Host.parseE c.dom = 0 ∧ Ref.lowL c.dom = c.dom)
  age1 : -1 ≤ c.age
  age2 : c.age ≤ 1073741824
theorem drop_head : ∀ (l : List UInt8) (x : UInt8) (r : List UInt8), l.dropWhile blankB = x :: r → blankB x = false
  | [], x, r, h => by cases h
  | y :: l, x, r, h => by
    rw [List.dropWhile_cons] at h
    by_cases hy : blankB y = true
    · rw [if_pos hy] at h; exact drop_head l x r h
    · rw [if_neg hy] at h
      cases h
      simpa using hy
theorem drop_id (l : List UInt8) (h : ∀ x r, l = x :: r → blankB x = false) : l.dropWhile blankB = l := by
  cases l with
  | nil => rfl
  | cons x r => rw [List.dropWhile_cons, if_neg (by rw [h x r rfl]; simp)]
theorem trim_again (l : List UInt8) : trimB (trimB l) = trimB l := by
  unfold trimB
  obtain ⟨m, hm⟩ : ∃ m, l.dropWhile blankB = m := ⟨_, rfl⟩
  rw [hm]
  obtain ⟨r, hr⟩ : ∃ r, m.reverse.dropWhile blankB = r := ⟨_, rfl⟩
  rw [hr]
  have h1 : r.reverse.dropWhile blankB = r.reverse := drop_id _ (fun x t hx => by
    have hs : m.reverse = m.reverse.takeWhile blankB ++ r := by rw [← hr]; exact (List.takeWhile_append_dropWhile ..).symm
    have hm2 : m = r.reverse ++ (m.reverse.takeWhile blankB).reverse := by
      have := congrArg List.reverse hs
      rwa [List.reverse_reverse, List.reverse_append] at this
    refine drop_head l x (t ++ (m.reverse.takeWhile blankB).reverse) ?_
    rw [hm]
    conv => lhs; rw [hm2, hx]
    rfl)
  rw [h1, List.reverse_reverse, drop_id r (fun x t hx => drop_head m.reverse x t (by rw [hr, hx]))]
theorem trim_mem (l : List UInt8) (b : UInt8) (h : b ∈ trimB l) : b ∈ l := by
  unfold trimB at h
  have h1 := (List.dropWhile_sublist _).subset (List.mem_reverse.1 h)
  exact (List.dropWhile_sublist _).subset (List.mem_reverse.1 h1)
theorem attrs_app : ∀ (l m : List (List UInt8)) (c d : Ck), attrs c l = some d → attrs c (l ++ m) = attrs d m
  | [], m, c, d, h => by cases h; rfl
  | p :: l, m, c, d, h => by
    simp only [attrs, List.cons_append] at h ⊢
    cases ha : attr c p with
    | none => rw [ha] at h; cases h
    | some e => rw [ha] at h; exact attrs_app l m e d h
theorem txt_no (p : List UInt8) (d : UInt8) (h : d ∉ p) : d ∉ txtL p := fun hm => by
  have h1 := trim_mem _ _ hm
  cases e : Host.tailL 61 p with
  | none => rw [e] at h1; cases h1
  | some r =>
    rw [e] at h1
    have hs : ∀ (t r : List UInt8), Host.tailL 61 t = some r → ∀ b ∈ r, b ∈ t := by
      intro t
      induction t with
      | nil => intro r h; cases h
      | cons y t ih =>
        intro r h b hb
        unfold Host.tailL at h
        split at h
        · cases h; simp [hb]
        · exact List.mem_cons_of_mem _ (ih r h b hb)
    exact h (hs p r e d h1)
theorem split_no (c : UInt8) : ∀ (l : List UInt8), ∀ p ∈ Ref.splitL c l, c ∉ p
  | [], p, h => by
    have : p = [] := by simpa [Ref.splitL] using h
    subst this; simp
  | b :: r, p, h => by
    by_cases hb : b = c
    · subst hb
      rw [Ref.split_is] at h
      rcases List.mem_cons.1 h with rfl | h
      · simp
      · exact split_no b r p h
    · rw [Ref.split_not c b r hb] at h
      have ih := split_no c r
      cases e : Ref.splitL c r with
      | nil => exact absurd e (Ref.split_ne c r)
      | cons q s =>
        rw [e] at h ih
        have h' : p ∈ (b :: q) :: s := h
        rcases List.mem_cons.1 h' with rfl | h'
        · simp only [List.mem_cons, not_or]
          exact ⟨fun x => hb x.symm, ih q (by simp)⟩
        · exact ih p (by simp [h'])
theorem num_range (most : Nat) : ∀ (l : List UInt8) (n m : Int), 0 ≤ n → n ≤ most → Ref.numGo most l n = some m → 0 ≤ m ∧ m ≤ most
  | [], n, m, h0, h1, h => by cases h; exact ⟨h0, h1⟩
  | b :: r, n, m, h0, h1, h => by
    unfold Ref.numGo at h
    split at h
    · rename_i hc
      have hd := (Ref.decB_of b).1 hc.1
      exact num_range most r _ m (by omega) (by omega) h
    · cases h
theorem num_of (l : List UInt8) (m : Int) (h : Ref.numOf 1073741824 l = some m) : 0 ≤ m ∧ m ≤ 1073741824 := by
  unfold Ref.numOf at h
  split at h
  · cases h
  · exact num_range 1073741824 l 0 m (by omega) (by omega) h
theorem attr_ok (c d : Ck) (p : List UInt8) (h : Ok c) (hp : (59 : UInt8) ∉ p) (ha : attr c p = some d) : Ok d := by
  obtain ⟨h1, h2, h3, h4, h5, h6⟩ := h
  unfold attr at ha
  split at ha
  · cases ha
    refine ⟨h1, h2, ?_, h4, h5, h6⟩
    simp only
    split
    · rename_i hs
      exact .inr ⟨hs, trim_again _, txt_no p 59 hp⟩
    · exact .inl rfl
  · split at ha
    · split at ha
      · rename_i hd
        cases ha
        exact ⟨h1, h2, h3, .inr ⟨by rw [Host.parse_low]; exact hd, Ref.lowL_lowL _⟩, h5, h6⟩
      · cases ha
    · split at ha
      · split at ha
        · rename_i n hn
          cases ha
          obtain ⟨g1, g2⟩ := num_of _ n hn
          exact ⟨h1, h2, h3, h4, by simp only; omega, g2⟩
        · cases ha
      · split at ha
        · cases ha; exact ⟨h1, h2, h3, h4, h5, h6⟩
        · cases ha; exact ⟨h1, h2, h3, h4, h5, h6⟩
theorem attrs_ok : ∀ (l : List (List UInt8)) (c d : Ck), Ok c → (∀ p ∈ l, (59 : UInt8) ∉ p) → attrs c l = some d → Ok d
  | [], c, d, h, _, ha => by cases ha; exact h
  | p :: l, c, d, h, hp, ha => by
    simp only [attrs] at ha
    cases e : attr c p with
    | none => rw [e] at ha; cases ha
    | some x => rw [e] at ha; exact attrs_ok l x d (attr_ok c x p h (hp p (by simp)) e) (fun q hq => hp q (by simp [hq])) ha
theorem parse_ck (t : List UInt8) (c : Ck) (h : parseC t = .inr c) : cookieL t = some c ∧ t.length ≤ 4096 ∧ (textC c).length ≤ 4096 := by
  unfold parseC at h
  split at h
  · cases h
  · split at h
    · cases h
    · rename_i d hd
      split at h
      · cases h
      · cases h
        exact ⟨hd, by omega, by omega⟩
theorem cookie_ok (t : List UInt8) (c : Ck) (h : cookieL t = some c) : Ok c := by
  unfold cookieL at h
  cases e : Ref.splitL 59 t with
  | nil => rw [e] at h; cases h
  | cons p r =>
    rw [e] at h
    have hno := split_no 59 t
    rw [e] at hno
    simp only at h
    cases hh : headC p with
    | none => rw [hh] at h; cases h
    | some c0 =>
      rw [hh] at h
      simp only at h
      unfold headC at hh
      split at hh
      · rename_i hc
        cases hh
        exact attrs_ok r _ _ ⟨hc.2.1, hc.2.2, .inl rfl, .inl rfl, by simp, by simp⟩ (fun q hq => hno q (by simp [hq])) h
      · cases hh
theorem parse_ok (t : List UInt8) (c : Ck) (h : parseC t = .inr c) : Ok c := cookie_ok t c (parse_ck t c h).1
theorem dig_short : ∀ (k n : Nat), 0 < k → n < 10 ^ k → (digL n).length ≤ k
  | 0, n, h, _ => absurd h (by omega)
  | k + 1, n, _, h => by
    by_cases hn : n < 10
    · rw [dig_small n hn]; simp
    · rw [dig_big n hn, List.length_append]
      have hk : 0 < k := by
        rcases Nat.eq_zero_or_pos k with e | e
        · subst e; simp at h; omega
        · exact e
      have := dig_short k (n / 10) hk (by rw [Nat.pow_succ] at h; omega)
      simp only [List.length_cons, List.length_nil]
      omega
theorem trim_le (l : List UInt8) : (trimB l).length ≤ l.length := by
  unfold trimB
  rw [List.length_reverse]
  refine Nat.le_trans (List.dropWhile_sublist _).length_le ?_
  rw [List.length_reverse]
  exact (List.dropWhile_sublist _).length_le
theorem txt_le (p : List UInt8) : (txtL p).length ≤ p.length := by
  unfold txtL
  refine Nat.le_trans (trim_le _) ?_
  cases e : Host.tailL 61 p with
  | none => simp
  | some r =>
    have := Hdr.tail_len 61 p r e
    simp only [Option.getD_some]
    omega
def Small (M : Nat) (c : Ck) : Prop := c.name.length ≤ M ∧ c.value.length ≤ M ∧ c.path.length ≤ M ∧ c.dom.length ≤ M
theorem attr_small (M : Nat) (c d : Ck) (p : List UInt8) (h : Small M c) (hp : p.length ≤ M) (ha : attr c p = some d) : Small M d := by
  obtain ⟨h1, h2, h3, h4⟩ := h
  have ht := txt_le p
  unfold attr at ha
  split at ha
  · cases ha
    refine ⟨h1, h2, ?_, h4⟩
    simp only
    split
    · omega
    · simp
  · split at ha
    · split at ha
      · cases ha
        exact ⟨h1, h2, h3, by simp only; rw [Ref.lowL_length]; omega⟩
      · cases ha
    · split at ha
      · split at ha
        · cases ha; exact ⟨h1, h2, h3, h4⟩
        · cases ha
      · split at ha
        · cases ha; exact ⟨h1, h2, h3, h4⟩
        · cases ha; exact ⟨h1, h2, h3, h4⟩
theorem attrs_small (M : Nat) : ∀ (l : List (List UInt8)) (c d : Ck), Small M c → (∀ p ∈ l, p.length ≤ M) → attrs c l = some d → Small M d
  | [], c, d, h, _, ha => by cases ha; exact h
  | p :: l, c, d, h, hp, ha => by
    simp only [attrs] at ha
    cases e : attr c p with
    | none => rw [e] at ha; cases ha
    | some x => rw [e] at ha; exact attrs_small M l x d (attr_small M c x p h (hp p (by simp)) e) (fun q hq => hp q (by simp [hq])) ha
theorem cookie_small (t : List UInt8) (c : Ck) (h : cookieL t = some c) : Small t.length c := by
  unfold cookieL at h
  cases e : Ref.splitL 59 t with
  | nil => rw [e] at h; cases h
  | cons p r =>
    rw [e] at h
    have hle := Ref.split_small 59 t
    rw [e] at hle
    simp only at h
    cases hh : headC p with
    | none => rw [hh] at h; cases h
    | some c0 =>
      rw [hh] at h
      simp only at h
      unfold headC at hh
      have hp := hle p (by simp)
      split at hh
      · cases hh
        refine attrs_small t.length r _ _ ⟨?_, ?_, by simp, by simp⟩ (fun q hq => hle q (by simp [hq])) h
        · refine Nat.le_trans (trim_le _) (Nat.le_trans ?_ hp)
          exact (List.takeWhile_sublist _).length_le
        · exact Nat.le_trans (txt_le p) hp
      · cases hh
theorem parse_small (t : List UInt8) (c : Ck) (h : parseC t = .inr c) : Small t.length c := cookie_small t c (parse_ck t c h).1
theorem join_len (c : UInt8) : ∀ (l : List (List UInt8)) (p : List UInt8), (Ref.joinL c (p :: l)).length = p.length + (l.map fun q => q.length + 1).sum
  | [], p => by simp [Ref.joinL]
  | q :: l, p => by
    show (p ++ c :: Ref.joinL c (q :: l)).length = _
    rw [List.length_append, List.length_cons, join_len c l q, List.map_cons, List.sum_cons]
    omega
theorem text_len (c : Ck) (M : Nat) (h : Small M c) (h2 : c.age ≤ 1073741824) : (textC c).length ≤ 4 * M + 60 := by
  obtain ⟨g1, g2, g3, g4⟩ := h
  have hd : c.age.toNat < 10 ^ 10 := by omega
  have hdl := dig_short 10 c.age.toNat (by omega) hd
  unfold textC
  rw [join_len]
  simp only [List.map_append, List.sum_append, List.length_append, List.length_cons]
  have e1 : ((pathP c).map fun q => q.length + 1).sum ≤ M + 7 := by
    unfold pathP
    split
    · simp
    · simp; omega
  have e2 : ((domP c).map fun q => q.length + 1).sum ≤ M + 9 := by
    unfold domP
    split
    · simp
    · simp; omega
  have e3 : ((ageP c).map fun q => q.length + 1).sum ≤ 20 := by
    unfold ageP
    split
    · simp
    · simp; omega
  have e4 : ((secP c).map fun q => q.length + 1).sum ≤ 8 := by
    unfold secP
    split
    · simp
    · simp
  omega
theorem parse_form (t : List UInt8) (e : Int) (hl : t.length ≤ 1000) (h : parseC t = .inl e) : e = 2 := by
  unfold parseC at h
  rw [if_neg (by omega)] at h
  split at h
  · exact (Sum.inl.inj h).symm
  · rename_i d hd
    have := text_len d t.length (cookie_small t d hd) (cookie_ok t d hd).age2
    rw [if_neg (by omega)] at h
    cases h
def lastS (p : List UInt8) : List UInt8 := (p.reverse.dropWhile (· != 47)).reverse
def homeL (c : Ck) (p : List UInt8) : List UInt8 := if c.path = [] then (if 1 < (lastS p).length then (lastS p).dropLast else lastS p) else c.path
def slashL (h : List UInt8) : List UInt8 := if h.getLast? = some 47 then h else h ++ [47]
def hereB (h p : List UInt8) : Bool := decide (p = h) || (slashL h).isPrefixOf p
def httpsS : List UInt8 := [104, 116, 116, 112, 115]
def mayB (c : Ck) (host scheme : List UInt8) : Bool := (decide (c.dom = []) || Host.withinB host c.dom) && (!c.secure || decide (scheme = httpsS))
def meantB (c : Ck) (host1 path1 host2 path2 scheme2 : List UInt8) : Bool :=
  (decide (host2 = host1) || Host.withinB host2 c.dom) && (!c.secure || decide (scheme2 = httpsS)) && hereB (homeL c path1) path2
end Go.Proofs.YtniehbjoogaccaaGreatDoor.Ck
namespace Go.Proofs.YtniehbjoogaccaaGreatDoor.Jar
open Url Hdr Ck
set_option linter.unusedVariables false
structure En where
  at_ : U
  c : Ck
  set : Int
abbrev Key := List UInt8 × List UInt8 × Nat
def keyU (u : U) : Key := (u.scheme, u.host, u.port)
def mine (k : Key) (e : En) : Bool := decide (keyU e.at_ = k)
def overE (now : Int) (e : En) : Bool := decide (0 ≤ e.c.age) && decide (e.set + e.c.age ≤ now)
def sameE (at_ : U) (c : Ck) (e : En) : Bool := decide (e.c.name = c.name) && decide (e.c.dom = c.dom) && decide (homeL e.c e.at_.path = homeL c at_.path)
def keepE (at_ : U) (c : Ck) (now : Int) (e : En) : Bool := !mine (keyU at_) e || (!overE now e && !sameE at_ c e)
def putJ (l : List En) (at_ : U) (c : Ck) (now : Int) : List En :=
  if c.age = 0 then l.filter (keepE at_ c now)
  else (if ((l.filter (keepE at_ c now)).filter (mine (keyU at_))).length < 8 then l.filter (keepE at_ c now) else (l.filter (keepE at_ c now)).eraseP (mine (keyU at_))) ++ [⟨at_, c, now⟩]
def setJ (l : List En) (at_ : U) (c : Ck) (now : Int) : List En := if mayB c at_.host at_.scheme = true then putJ l at_ c now else l
def sweepJ (now : Int) (l : List En) : List En := l.filter fun e => !overE now e
def lenJ (k : Key) (l : List En) : Nat := (l.filter (mine k)).length
def homeE (e : En) : Nat := (homeL e.c e.at_.path).length
def meantE (u : U) (e : En) : Bool := meantB e.c e.at_.host e.at_.path u.host u.path u.scheme
def hereJ (k : Key) (u : U) (now : Int) (l : List En) : List En := (l.filter (mine k)).filter fun e => !overE now e && meantE u e
def longest (l : List En) : Nat := l.foldr (fun e m => max (homeE e) m) 0
def byLen (l : List En) : List En := (List.range (longest l + 1)).reverse.flatMap fun n => l.filter fun e => homeE e == n
def forJ (k : Key) (u : U) (now : Int) (l : List En) : List En := byLen (hereJ k u now l)
theorem keep_other (at_ : U) (c : Ck) (now : Int) (k : Key) (h : keyU at_ ≠ k) (e : En) (hm : mine k e = true) : keepE at_ c now e = true := by
  have hk : keyU e.at_ = k := of_decide_eq_true hm
  unfold keepE mine
  rw [decide_eq_false (fun h' => h (h'.symm.trans hk))]
  rfl
theorem filter_keep_other (at_ : U) (c : Ck) (now : Int) (k : Key) (h : keyU at_ ≠ k) : ∀ l : List En, (l.filter (keepE at_ c now)).filter (mine k) = l.filter (mine k)
  | [] => rfl
  | e :: r => by
    have ih := filter_keep_other at_ c now k h r
    cases hm : mine k e with
    | true => rw [List.filter_cons_of_pos (keep_other at_ c now k h e hm), List.filter_cons_of_pos hm, List.filter_cons_of_pos hm, ih]
    | false =>
      cases hk : keepE at_ c now e with
      | true => rw [List.filter_cons_of_pos hk, List.filter_cons_of_neg (by rw [hm]; decide), List.filter_cons_of_neg (by rw [hm]; decide), ih]
      | false => rw [List.filter_cons_of_neg (p := keepE at_ c now) (by rw [hk]; decide), List.filter_cons_of_neg (by rw [hm]; decide), ih]
theorem erase_other (p q : En → Bool) (h : ∀ e, q e = true → p e = false) : ∀ l : List En, (l.eraseP q).filter p = l.filter p
  | [] => rfl
  | e :: r => by
    cases hq : q e with
    | true =>
      rw [List.eraseP_cons_of_pos hq, List.filter_cons_of_neg (by rw [h e hq]; decide)]
    | false =>
      rw [List.eraseP_cons_of_neg (by rw [hq]; decide)]
      cases hp : p e with
      | true => rw [List.filter_cons_of_pos hp, List.filter_cons_of_pos hp, erase_other p q h r]
      | false => rw [List.filter_cons_of_neg (by rw [hp]; decide), List.filter_cons_of_neg (by rw [hp]; decide), erase_other p q h r]
theorem erase_mine (p : En → Bool) : ∀ l : List En, (l.eraseP p).filter p = (l.filter p).eraseP p
  | [] => rfl
  | e :: r => by
    cases hp : p e with
    | true => rw [List.eraseP_cons_of_pos hp, List.filter_cons_of_pos hp, List.eraseP_cons_of_pos hp]
    | false => rw [List.eraseP_cons_of_neg (by rw [hp]; decide), List.filter_cons_of_neg (by rw [hp]; decide), List.filter_cons_of_neg (by rw [hp]; decide), erase_mine p r]
theorem filter_comm (p q : En → Bool) : ∀ l : List En, (l.filter p).filter q = (l.filter q).filter p := fun l => by
  rw [List.filter_filter, List.filter_filter]
  congr 1
  funext e
  exact Bool.and_comm _ _
theorem set_other (l : List En) (at_ : U) (c : Ck) (now : Int) (k : Key) (h : keyU at_ ≠ k) : (setJ l at_ c now).filter (mine k) = l.filter (mine k) := by
  have hk := filter_keep_other at_ c now k h l
  have hx : mine k ⟨at_, c, now⟩ = false := decide_eq_false h
  unfold setJ putJ
  split
  · split
    · exact hk
    · rw [List.filter_append, List.filter_cons_of_neg (by rw [hx]; decide), List.filter_nil, List.append_nil]
      split
      · exact hk
      · rw [erase_other (mine k) (mine (keyU at_)) (fun e he => decide_eq_false (fun h' => h ((of_decide_eq_true he).symm.trans h'))), hk]
  · rfl
theorem erase_len (p : En → Bool) : ∀ l : List En, 0 < (l.filter p).length → ((l.eraseP p).filter p).length + 1 = (l.filter p).length := fun l h => by
  rw [erase_mine]
  cases hl : l.filter p with
  | nil => rw [hl] at h; exact absurd h (by decide)
  | cons e r =>
    have he : p e = true := (List.mem_filter.1 (hl ▸ List.mem_cons_self : e ∈ l.filter p)).2
    rw [List.eraseP_cons_of_pos he, List.length_cons]
theorem set_few (l : List En) (at_ : U) (c : Ck) (now : Int) (h : ∀ k, lenJ k l ≤ 8) : ∀ k, lenJ k (setJ l at_ c now) ≤ 8 := fun k => by
  by_cases hk : keyU at_ = k
  · subst hk
    have hf : ((l.filter (keepE at_ c now)).filter (mine (keyU at_))).length ≤ 8 := by
      rw [filter_comm]
      exact Nat.le_trans (List.length_filter_le _ _) (h (keyU at_))
    have hx : mine (keyU at_) ⟨at_, c, now⟩ = true := decide_eq_true rfl
    unfold lenJ setJ putJ
    split
    · split
      · exact hf
      · rw [List.filter_append, List.filter_cons_of_pos hx, List.filter_nil, List.length_append, List.length_singleton]
        split
        · omega
        · have := erase_len (mine (keyU at_)) (l.filter (keepE at_ c now)) (by omega)
          omega
    · exact h _
  · have := h k
    unfold lenJ at this ⊢
    rw [set_other l at_ c now k hk]
    exact this
theorem home_longest : ∀ (l : List En) (e : En), e ∈ l → homeE e ≤ longest l
  | x :: r, e, h => by
    unfold longest
    rw [List.foldr_cons]
    rcases List.mem_cons.1 h with rfl | h
    · exact Nat.le_max_left _ _
    · exact Nat.le_trans (home_longest r e h) (Nat.le_max_right _ _)
theorem mem_set (l : List En) (at_ : U) (c : Ck) (now : Int) (e : En) (h : e ∈ setJ l at_ c now) : e ∈ l ∨ e = ⟨at_, c, now⟩ := by
  unfold setJ putJ at h
  split at h
  · split at h
    · exact .inl (List.mem_filter.1 h).1
    · rcases List.mem_append.1 h with h | h
      · split at h
        · exact .inl (List.mem_filter.1 h).1
        · exact .inl (List.mem_filter.1 (List.mem_of_mem_eraseP h)).1
      · exact .inr (List.mem_singleton.1 h)
  · exact .inl h
end Go.Proofs.YtniehbjoogaccaaGreatDoor.Jar
namespace Go.Proofs.YtniehbjoogaccaaGreatDoor.Jar
open Go.Sort
set_option linter.unusedVariables false
set_option linter.unusedSectionVars false
section
variable {α : Type} [Inhabited α] (h : α → Nat)
def descBy (M : Nat) (l : List α) : List α := (List.range (M + 1)).reverse.flatMap fun n => l.filter fun x => h x == n
theorem list_two (d : Array α) (j : Nat) (hj : j + 1 < d.size) : d.toList = d.toList.take j ++ d[j]! :: d[j + 1]! :: d.toList.drop (j + 2) := by
  rw [getElem!_pos d j (by omega), getElem!_pos d (j + 1) hj]
  conv => lhs; rw [← List.take_append_drop j d.toList]
  congr 1
  rw [List.drop_eq_getElem_cons (by simpa using (show j < d.size by omega)), List.drop_eq_getElem_cons (by simpa using hj)]
  rfl
theorem swp_two (d : Array α) (j : Nat) (hj : j + 1 < d.size) : (swp d (j + 1) j).toList = d.toList.take j ++ d[j + 1]! :: d[j]! :: d.toList.drop (j + 2) := by
  apply List.ext_getElem?
  intro k
  have hs : (swp d (j + 1) j).size = d.size := swp_size d _ _
  rw [Array.getElem?_toList]
  by_cases hk : k < d.size
  · rw [Array.getElem?_eq_getElem (by omega), ← getElem!_pos _ _ (by omega), swp_get d hj (by omega) k]
    by_cases h1 : k = j
    · subst h1
      rw [List.getElem?_append_right (by simp; omega)]
      simp [Nat.min_eq_left (show k ≤ d.size by omega)]
    · by_cases h2 : k = j + 1
      · subst h2
        rw [List.getElem?_append_right (by simp; omega)]
        simp [Nat.min_eq_left (show j ≤ d.size by omega)]
      · rcases Nat.lt_or_ge k j with h3 | h3
        · rw [List.getElem?_append_left (by simp; omega), List.getElem?_take, if_pos h3, Array.getElem?_toList, Array.getElem?_eq_getElem (by omega), getElem!_pos d k hk]
          simp [h1, h2]
        · rw [List.getElem?_append_right (by simp; omega)]
          obtain ⟨m, rfl⟩ : ∃ m, k = j + 2 + m := ⟨k - (j + 2), by omega⟩
          rw [show j + 2 + m - (d.toList.take j).length = m + 1 + 1 by simp; omega, List.getElem?_cons_succ, List.getElem?_cons_succ, List.getElem?_drop, Array.getElem?_toList, Array.getElem?_eq_getElem (by omega)]
          rw [if_neg h1, if_neg h2, getElem!_pos d _ hk]
  · rw [Array.getElem?_eq_none (by omega), List.getElem?_eq_none]
    simp
    omega
theorem swp_class (d : Array α) (j : Nat) (hj : j + 1 < d.size) (hne : h d[j]! ≠ h d[j + 1]!) (n : Nat) : (swp d (j + 1) j).toList.filter (fun x => h x == n) = d.toList.filter fun x => h x == n := by
  rw [swp_two d j hj]
  conv => rhs; rw [list_two d j hj]
  rw [List.filter_append, List.filter_append]
  congr 1
  by_cases h1 : h d[j]! = n
  · have h2 : ¬ h d[j + 1]! = n := fun e => hne (h1.trans e.symm)
    simp [h1, h2]
  · by_cases h2 : h d[j + 1]! = n <;> simp [h1, h2]
variable {lt : α → α → Bool} (hlt : ∀ x y, lt x y = decide (h y < h x))
include hlt
theorem inner_class (a : Nat) : ∀ (j : Nat) (d : Array α), j < d.size → (insInner lt a j d).size = d.size ∧ ∀ n, (insInner lt a j d).toList.filter (fun x => h x == n) = d.toList.filter fun x => h x == n
  | 0, d, _ => ⟨rfl, fun _ => rfl⟩
  | j + 1, d, hj => by
    unfold insInner
    split
    · rename_i hc
      rw [Bool.and_eq_true, hlt] at hc
      have h1 : h d[j]! < h d[j + 1]! := of_decide_eq_true hc.2
      have ih := inner_class a j (swp d (j + 1) j) (by rw [swp_size]; omega)
      exact ⟨ih.1.trans (swp_size d _ _), fun n => (ih.2 n).trans (swp_class h d j hj (by omega) n)⟩
    · exact ⟨rfl, fun _ => rfl⟩
theorem outer_class (a b : Nat) : ∀ (m i : Nat) (d : Array α), b - i = m → b ≤ d.size → ∀ n, (insOuter lt a b i d).toList.filter (fun x => h x == n) = d.toList.filter fun x => h x == n
  | m, i, d, hm, hb, n => by
    rw [insOuter]
    split
    · rename_i hi
      have hI := inner_class h hlt a i d (by omega)
      cases m with
      | zero => omega
      | succ m => exact (outer_class a b m (i + 1) _ (by omega) (by rw [hI.1]; exact hb) n).trans (hI.2 n)
    · rfl
omit hlt
theorem split_top (M : Nat) : ∀ l : List α, l.Pairwise (fun x y => h y ≤ h x) → (∀ x ∈ l, h x ≤ M + 1) → l = l.filter (fun x => h x == M + 1) ++ l.filter fun x => decide (h x ≤ M)
  | [], _, _ => rfl
  | x :: r, hp, hM => by
    rw [List.pairwise_cons] at hp
    by_cases hx : h x = M + 1
    · have ih := split_top M r hp.2 (fun y hy => hM y (by simp [hy]))
      rw [List.filter_cons_of_pos (by simp [hx]), List.filter_cons_of_neg (by simp [hx]), List.cons_append, ← ih]
    · have hx2 : h x ≤ M := by have := hM x (by simp); omega
      have h1 : (x :: r).filter (fun x => h x == M + 1) = [] := by
        rw [List.filter_eq_nil_iff]
        intro y hy
        rcases List.mem_cons.1 hy with rfl | hy
        · simp [hx]
        · have := hp.1 y hy
          simp
          omega
      rw [h1, List.nil_append, List.filter_eq_self.2]
      intro y hy
      rcases List.mem_cons.1 hy with rfl | hy
      · simpa using hx2
      · have := hp.1 y hy
        simp
        omega
theorem desc_sorted : ∀ (M : Nat) (l : List α), l.Pairwise (fun x y => h y ≤ h x) → (∀ x ∈ l, h x ≤ M) → l = descBy h M l
  | 0, l, hp, hM => by
    unfold descBy
    have : l.filter (fun x => h x == 0) = l := List.filter_eq_self.2 (fun x hx => by have := hM x hx; simp; omega)
    simp [this]
  | M + 1, l, hp, hM => by
    have h1 := split_top h M l hp hM
    have ih := desc_sorted M (l.filter fun x => decide (h x ≤ M)) (hp.sublist List.filter_sublist) (fun x hx => by simpa using (List.mem_filter.1 hx).2)
    unfold descBy at ih ⊢
    rw [List.range_succ, List.reverse_append, List.reverse_cons, List.reverse_nil, List.nil_append, List.flatMap_append, List.flatMap_cons, List.flatMap_nil, List.append_nil]
    refine h1.trans ?_
    congr 1
    refine ih.trans ?_
    unfold List.flatMap
    congr 1
    refine List.map_congr_left fun n hn => ?_
    have hn' : n ≤ M := by rw [List.mem_reverse, List.mem_range] at hn; omega
    rw [List.filter_filter]
    refine List.filter_congr fun x _ => ?_
    by_cases hx : h x = n
    · simp [hx, hn']
    · simp [hx]
theorem ins_desc (hlt : ∀ x y, lt x y = decide (h y < h x)) (d : Array α) (M : Nat) (hM : ∀ x ∈ d.toList, h x ≤ M) : (insertionSort lt d 0 d.size).toList = descBy h M d.toList := by
  have hS : SWO lt := ⟨fun x => by rw [hlt]; simp, fun x y z h1 h2 => by rw [hlt] at *; simp at *; omega, fun x y z h1 h2 => by rw [hlt] at *; simp at *; omega⟩
  obtain ⟨hp, hs⟩ := insertionSort_holds hS d 0 d.size (Nat.zero_le _) (Nat.le_refl _)
  have hc := outer_class h hlt 0 d.size (d.size - 1) 1 d rfl (Nat.le_refl _)
  have hc : ∀ n, (insertionSort lt d 0 d.size).toList.filter (fun x => h x == n) = d.toList.filter fun x => h x == n := hc
  generalize insertionSort lt d 0 d.size = d' at hp hs hc
  have hperm : d'.toList.Perm d.toList := by
    have h1 := hp.2.2
    rw [Array.extract_size, ← hp.1, Array.extract_size] at h1
    exact h1
  have e : descBy h M d.toList = descBy h M d'.toList := by
    unfold descBy
    simp only [hc]
  rw [e]
  refine desc_sorted h M _ ?_ (fun x hx => hM x (hperm.mem_iff.1 hx))
  rw [List.pairwise_iff_getElem]
  intro i j hi hj hij
  have hi' : i < d'.size := by simpa using hi
  have hj' : j < d'.size := by simpa using hj
  have := hs i j (Nat.zero_le _) hij (by rw [← hp.1]; exact hj')
  rw [hlt, getElem!_pos d' i hi', getElem!_pos d' j hj'] at this
  have h2 := of_decide_eq_false this
  simp only [Array.getElem_toList]
  omega
end
theorem desc_map {α β : Type} (f : α → β) (h : β → Nat) (M : Nat) (l : List α) : (descBy (fun x => h (f x)) M l).map f = descBy h M (l.map f) := by
  unfold descBy
  rw [List.map_flatMap]
  congr 1
  funext n
  rw [List.filter_map]
  rfl
end Go.Proofs.YtniehbjoogaccaaGreatDoor.Jar
namespace Go.Proofs.YtniehbjoogaccaaGreatDoor
open Go.RowKit Go.Shelf
theorem splitOf_len (l : List UInt8) (xs : List (Nat × Nat)) : (splitOf l xs).length = xs.length := by simp [splitOf]
theorem splitX_num (c : UInt8) (l : List UInt8) (pre : List (Nat × List UInt8)) (x : Nat × List UInt8) (rest : List (Nat × List UInt8)) (h : splitX c l = pre ++ x :: rest) : x.1 = pre.length := by
  have h1 : (splitX c l)[pre.length]? = some x := by rw [h]; simp
  unfold splitX splitOf at h1
  rw [List.getElem?_map, List.getElem?_zipIdx] at h1
  cases hx : (spansL (isB c) l)[pre.length]? with
  | none => rw [hx] at h1; simp at h1
  | some y => rw [hx] at h1; simp at h1; rw [← h1]
theorem splitX_small (c : UInt8) (l : List UInt8) (n : Nat) (h : l.length = n) : ∀ x ∈ splitX c l, x.2.length ≤ n := by
  intro x hx
  unfold splitX splitOf at hx
  obtain ⟨y, hy, rfl⟩ := List.mem_map.1 hx
  have hb := spansL_bounds (isB c) l y.1 (List.fst_mem_of_mem_zipIdx hy)
  simp only
  rw [sub_length _ _ _ hb.2]
  omega
theorem splitX_len (c : UInt8) (l : List UInt8) : (splitX c l).length ≤ l.length + 1 := by
  unfold splitX
  rw [splitOf_len]
  exact spansGo_len _ _ _ _
theorem Split_iter {w w' : World} {B n : Nat} {c : UInt8} {v' : Value} {l : List UInt8} (hn : n ≤ 140737488355328) (hB : Boxed w' B 29 v') (hBc : Boxed w' w.heap.size 5 (.int .u8 (c.toNat : Int))) (hrow : w'.ownsRow (w.heap.size + 1) 5 1 v' n ((Lib.numsL l).map (Value.int .u8))) :
    IterC Tryz.prog 146 #[.pointer (some ⟨B, 0, none⟩), .pointer (some ⟨w.heap.size, 0, none⟩)] NumRowArg (splitX c l) (fun b => b = B ∨ b = w.heap.size ∨ v'.ownBlock = some b) w' := by
  obtain ⟨q, cc, rfl, hl, hnc, _, hbs, hblk⟩ := row_open hrow
  exact Split1_iter B w.heap.size c q n cc l _ w' hl hn hnc hbs (fun a ha _ => .inr (.inr (hblk a ha).2.2)) hB (.inl rfl) hBc (.inr (.inl rfl)) (fun b hb => by
    rcases hb with rfl | rfl | hb
    · exact hB.lt
    · exact hBc.lt
    · exact (hrow.lt b hb).2)
theorem info_u8 : (Tryz.prog.info? 5).map (fun i => (i.zero, i.size, i.bytes)) = some (some (.int .u8 0), 1, 1) := by kernel_rfl
theorem wpList_append_bytes {ops : Array Oper} {rest : List Oper} {o : Oper} {a : Act} {w : World} {Q : Exit → Act → World → Prop} (hgd : o.guard = none) (s x : Operand)
    (ho : o.op = .call { callee := .builtin .append, args := #[s, x], argTypes := #[29, 29] })
    (base : Nat) (v : Value) (n : Nat) (xs : List Value) (hs : a.eval s = v) (hown : w.ownsRow base 5 1 v n xs) (p : Option Addr) (m c : Nat) (bs : List UInt8) (hx : a.eval x = .slice p m c) (hp : p = none → m = 0 ∧ c = 0)
    (hl : bs.length = m) (hb : Lib.BytesIn w p m (Lib.numsL bs)) (h47 : n + m ≤ 140737488355328) (hbase : base ≤ w.heap.size)
    (h : ∀ v' w', w'.ownsRow base 5 1 v' (n + m) (xs ++ (Lib.numsL bs).map (Value.int .u8)) → w.grownBy w' v.ownBlock → wpList Tryz.prog ops Q rest (a.put o.dst v') w') : wpList Tryz.prog ops Q (o :: rest) a w := by
  obtain ⟨i0, hi0, hz0, hz1, hz2⟩ := info_parts info_u8
  cases p with
  | none =>
    obtain ⟨rfl, rfl⟩ := hp rfl
    obtain rfl : bs = [] := List.eq_nil_of_length_eq_zero hl
    refine wpList_append_own_none hgd s x _ ho base 5 i0 1 Tryz.underlying29 hi0 v n xs hs hown hx (h v w ?_ ⟨rfl, rfl, rfl, Nat.le_refl _, fun _ _ _ => rfl⟩)
    simpa [Lib.numsL] using hown
  | some ad =>
    refine wpList_append_own w hgd s x _ ho base 5 i0 (.int .u8 0) 1 1 Tryz.underlying29 hi0 hz0 hz1 hz2 rfl (by decide) v n xs hs hown ad m c ((Lib.numsL bs).map (Value.int .u8)) hx (by simp [Lib.numsL, hl]) (fun j u hj => ?_) (by simp [Lib.numsL, Value.oneCell']) (by unfold maxLen; omega) (by omega) hbase (fun v' w' h1 h2 _ => h v' w' h1 h2)
    rcases Nat.lt_or_ge j m with h' | h'
    · obtain ⟨b, o, he, hcc⟩ := hb.at (by omega)
      cases he
      have hj' : j < (Lib.numsL bs).length := by rw [Lib.numsL_length]; omega
      rw [Go.WideShapes.add_plain, hcc j h']
      rw [List.getElem?_map, List.getElem?_eq_getElem hj'] at hj
      simp only [Option.map_some, Option.some.injEq] at hj
      rw [← hj, List.getD, List.getElem?_eq_getElem hj']
      rfl
    · rw [List.getElem?_eq_none (by rw [List.length_map, Lib.numsL_length]; omega)] at hj
      cases hj
end Go.Proofs.YtniehbjoogaccaaGreatDoor
namespace Go.Proofs.YtniehbjoogaccaaGreatDoor
open Go.RowKit Go.Shelf
def lowL (l : List UInt8) : List UInt8 := l.map low
theorem lowL_length (l : List UInt8) : (lowL l).length = l.length := by simp [lowL]
theorem lowL_getD (l : List UInt8) (k : Nat) (h : k < l.length) : (lowL l).getD k 0 = low (l.getD k 0) := by simp [lowL, List.getD, List.getElem?_eq_getElem h]
set_option maxRecDepth 100000 in
set_option maxHeartbeats 2000000 in
theorem Lower_any (q : Option Addr) (n c : Nat) (l : List UInt8) (w : World) (hl : l.length = n) (hn : n ≤ 140737488355328) (hb : Lib.BytesIn w q n (Lib.numsL l)) :
    Calls Tryz.prog 88 #[.slice q n c] w fun e w' => ∃ v', e = .returned v' ∧ w'.ownsRow w.heap.size 5 1 v' n ((Lib.numsL (lowL l)).map (Value.int .u8)) ∧ Below w.heap.size w w' := by
  obtain ⟨i0, hi0, hz0, hz1, hz2⟩ := info_parts info_u8
  have HL := Lib.hid hl
  clear hl
  go_enter Tryz.func88, Tryz.ntmps88
  go_wp2_with (at_make; refine wpList_make_full _ rfl _ _ 29 rfl w.heap.size 5 i0 (.int .u8 0) 1 Tryz.underlying29 hi0 hz0 hz1 .i64 .i64 _ _ n rfl rfl rfl rfl (by rw [hz2]; omega) (by unfold maxLen; omega) (Nat.le_refl _) ?_; intro w1 hown hgrow)
  have hbel : Below w.heap.size w w1 := (Below.refl _ _).grown hgrow (Nat.le_refl _) (fun _ h => by cases h)
  obtain ⟨cur0, hg0, hs0⟩ : ∃ cur, w1.heap[w.heap.size]? = some (.cells cur 5 (0, 0)) ∧ cur.size = n := by
    rcases hown.2 with ⟨h1, _⟩ | ⟨g, cap, cur, h1, _, hg, _, _, h3, _⟩
    · cases h1
    · cases h1; exact ⟨cur, hg, by simpa using h3⟩
  clear hown hgrow
  go_loopw [11] (fun i wr => ∃ k : Nat, ∃ cur : Array Value, k ≤ n ∧ i = .int .i64 k ∧ Below w.heap.size w wr ∧ wr.heap[w.heap.size]? = some (.cells cur 5 (0, 0)) ∧ Hid (cur.size = n) ∧ Hid (∀ j, j < k → cur[j]? = some (.int .u8 ((low (l.getD j 0)).toNat : Int)))) (fun i _ => n - (intOf i).toNat)
  case atStart => exact ⟨0, cur0, Nat.zero_le _, rfl, hbel, hg0, hs0, fun j hj => absurd hj (Nat.not_lt_zero _)⟩
  case round =>
    obtain ⟨k, cur, hk, rfl, hbr, hg, HS, HC⟩ := hrel
    by_cases hlt : k < n
    · obtain ⟨b, o, rfl, hc⟩ := hb.at (by omega)
      have hck : wr.cell? ⟨b, o + k, none⟩ = some (.int .u8 ((l.getD k 0).toNat : Int)) := by
        rw [← numsL_getD l k (by rw [HL.out]; exact hlt), ← hc k hlt]
        exact hbr.cell (World.block_lt_of_cell? w _ (hc k hlt))
      have hkc : k < cur.size := by rw [HS.out]; exact hlt
      have hgk : wr.cell? ⟨w.heap.size, k, none⟩ = some cur[k] := by simp [World.cell?, hg, Array.getElem?_eq_getElem hkc]
      have hfk : wr.frozen? ⟨w.heap.size, k, none⟩ = false := by simp [World.frozen?, hg]
      have HG := Lib.hid hg
      obtain ⟨bk, HB⟩ : ∃ bk, Hid (bk = l.getD k 0) := ⟨_, rfl⟩
      rw [← HB.out] at hck
      have hk1 := lowerByte_any bk
      obtain ⟨y, HY⟩ : ∃ y, Hid (y = low bk) := ⟨_, rfl⟩
      rw [← HY.out] at hk1
      clear hc hb hg
      generalize cur[k] = cv at hgk
      go_wp2_with (go_at_call 133; refine (hk1 _).mono ?_; rintro e w' ⟨rfl, rfl⟩)
      go_roundw
      case rel =>
        refine ⟨k + 1, cur.setIfInBounds k (.int .u8 (y.toNat : Int)), by omega, by go_num, hbr.setCell (p := ⟨w.heap.size, k, none⟩) (Nat.le_refl _) _, Joins.block_setCell HG.out _, ?_, fun j hj => ?_⟩
        · show (cur.setIfInBounds k _).size = n
          rw [Array.size_setIfInBounds]; exact HS.out
        · by_cases hjk : j = k
          · subst hjk
            rw [Array.getElem?_setIfInBounds_self_of_lt hkc, HY.out, HB.out]
          · rw [Array.getElem?_setIfInBounds_ne (Ne.symm hjk)]
            exact HC.out j (by omega)
      case measure => simp [intOf]; omega
    · have hkn : k = n := by omega
      have hrow : wr.ownsRow w.heap.size 5 1 (.slice (some ⟨w.heap.size, 0, none⟩) n n) n ((Lib.numsL (lowL l)).map (Value.int .u8)) := by
        refine ⟨by rw [List.length_map, Lib.numsL_length, lowL_length, HL.out, Nat.mul_one], .inr ⟨w.heap.size, n, cur, rfl, Nat.le_refl _, hg, Nat.le_refl _, by unfold maxLen; omega, by rw [HS.out, Nat.mul_one], ?_⟩⟩
        have hcs := HS.out
        have hll := HL.out
        apply List.ext_getElem?
        intro j
        rw [Nat.mul_one, List.take_of_length_le (by rw [Array.length_toList, hcs]; exact Nat.le_refl _), Array.getElem?_toList]
        rcases Nat.lt_or_ge j n with hj | hj
        · have hj' : j < (Lib.numsL (lowL l)).length := by rw [Lib.numsL_length, lowL_length, hll]; exact hj
          have hn1 := numsL_getD (lowL l) j (by rw [lowL_length, hll]; exact hj)
          rw [lowL_getD l j (by rw [hll]; exact hj), List.getD, List.getElem?_eq_getElem hj', Option.getD_some] at hn1
          rw [HC.out j (by omega), List.getElem?_map, List.getElem?_eq_getElem hj', Option.map_some, hn1]
        · rw [Array.getElem?_eq_none (by omega), List.getElem?_eq_none (by rw [List.length_map, Lib.numsL_length, lowL_length, hll]; exact hj)]
      clear HS HC hg hkn
      go_wp2
      go_ret
      exact ⟨_, rfl, hrow, hbr⟩
def sameLow (x y : List UInt8) : Bool := decide (lowL x = lowL y)
theorem Same1_any (a b : UInt8) (w : World) : Calls Tryz.prog 169 #[.int .u8 (a.toNat : Int), .int .u8 (b.toNat : Int)] w fun e w' => e = .returned (.bool (isB (low b) (low a))) ∧ w = w' := by
  have h1 := lowerByte_any a
  have h2 := lowerByte_any b
  have hx := u8_lt (low a)
  have hy := u8_lt (low b)
  generalize low a = x at *
  generalize low b = y at *
  have H := Lib.hid (show isB y x = ((x.toNat : Int) == (y.toNat : Int)) by unfold isB; rw [Bool.eq_iff_iff, beq_iff_eq, beq_iff_eq, ← UInt8.toNat_inj]; omega)
  go_enter Tryz.func169, Tryz.ntmps169
  go_wp2_with fail
  refine (h1 _).mono ?_
  rintro e w' ⟨rfl, rfl⟩
  go_wp2_with fail
  refine (h2 _).mono ?_
  rintro e w' ⟨rfl, rfl⟩
  go_wp2
  go_ret
  exact ⟨(by rw [H.out]; try rfl), rfl⟩
set_option maxRecDepth 100000 in
set_option maxHeartbeats 2000000 in
theorem EqualFunc_any (p1 p2 : Option Addr) (n c m d : Nat) (xs ys : List UInt8) (w : World) (hx : xs.length = n) (hy : ys.length = m) (hn : n ≤ 140737488355328) (hm : m ≤ 140737488355328) (h1 : Lib.BytesIn w p1 n (Lib.numsL xs)) (h2 : Lib.BytesIn w p2 m (Lib.numsL ys)) :
    Calls Tryz.prog 168 #[.slice p1 n c, .slice p2 m d, .func (.func 169) #[] #[]] w fun e w' => e = .returned (.bool (sameLow xs ys)) ∧ w = w' := by
  by_cases hnm : n = m
  · subst hnm
    have e0 : ((n : Int) != (n : Int)) = false := by simp
    go_enter Tryz.func168, Tryz.ntmps168
    go_wp2
    go_loop [17] (fun i => ∃ k : Nat, k ≤ n ∧ i = .int .i64 k ∧ Hid (sameLow xs ys = sameLow (xs.drop k) (ys.drop k))) (fun i => n - (intOf i).toNat)
    case atStart => exact ⟨0, Nat.zero_le _, rfl, rfl⟩
    case round =>
      obtain ⟨k, hk, rfl, HR⟩ := hrel
      by_cases hlt : k < n
      · obtain ⟨b1, o1, rfl, hc1⟩ := h1.at (by omega)
        obtain ⟨b2, o2, rfl, hc2⟩ := h2.at (by omega)
        have c1 := hc1 k hlt
        have c2 := hc2 k hlt
        rw [numsL_getD _ _ (by omega)] at c1 c2
        have d1 := drop_cons xs k (by omega)
        have d2 := drop_cons ys k (by omega)
        clear hc1 hc2 h1 h2 e0
        generalize xs.getD k 0 = x at c1 d1
        generalize ys.getD k 0 = y at c2 d2
        have hs := Same1_any x y w
        by_cases hxy : low x = low y
        · have HR2 := Lib.hid (show sameLow xs ys = sameLow (xs.drop (k + 1)) (ys.drop (k + 1)) by rw [HR.out, d1, d2]; unfold sameLow lowL; simp [hxy])
          rw [show isB (low y) (low x) = true from by unfold isB; rw [beq_iff_eq]; exact hxy] at hs
          clear d1 d2 HR hxy
          go_wp2_with (go_at_call 169; refine hs.mono ?_; rintro e w' ⟨rfl, hw⟩; subst hw)
          go_round
          case rel => exact ⟨k + 1, by omega, by go_num, HR2⟩
          case measure => simp [intOf]; omega
        · have H := Lib.hid (show sameLow xs ys = false by rw [HR.out, d1, d2]; unfold sameLow lowL; simp [hxy])
          rw [show isB (low y) (low x) = false from by unfold isB; rw [beq_eq_false_iff_ne]; exact hxy] at hs
          clear d1 d2 HR hxy
          go_wp2_with (go_at_call 169; refine hs.mono ?_; rintro e w' ⟨rfl, hw⟩; subst hw)
          go_ret
          exact ⟨(by rw [H.out]; try rfl), rfl⟩
      · have H := Lib.hid (show sameLow xs ys = true by rw [HR.out, List.drop_of_length_le (by omega), List.drop_of_length_le (by omega)]; rfl)
        clear HR
        go_wp2
        go_ret
        exact ⟨(by rw [H.out]; try rfl), rfl⟩
  · have e0 : ((n : Int) != (m : Int)) = true := by rw [bne_iff_ne]; omega
    have H := Lib.hid (show sameLow xs ys = false by unfold sameLow; rw [decide_eq_false_iff_not]; intro h; apply hnm; rw [← hx, ← hy, ← lowL_length xs, ← lowL_length ys, h])
    go_enter Tryz.func168, Tryz.ntmps168
    go_wp2
    go_ret
    exact ⟨(by rw [H.out]; try rfl), rfl⟩
theorem cutSame_any (p1 p2 : Option Addr) (n c m d : Nat) (xs ys : List UInt8) (w : World) (hx : xs.length = n) (hy : ys.length = m) (hn : n ≤ 140737488355328) (hm : m ≤ 140737488355328) (h1 : Lib.BytesIn w p1 n (Lib.numsL xs)) (h2 : Lib.BytesIn w p2 m (Lib.numsL ys)) :
    Calls Tryz.prog 130 #[.slice p1 n c, .slice p2 m d] w fun e w' => e = .returned (.bool (sameLow xs ys)) ∧ w = w' := by
  have con := EqualFunc_any p1 p2 n c m d xs ys w hx hy hn hm h1 h2
  clear h1 h2
  go_enter Tryz.func130, Tryz.ntmps130
  go_wp2_with (go_at_call 168; refine con.mono ?_; rintro e w' ⟨rfl, rfl⟩)
  go_ret
  exact ⟨rfl, rfl⟩
end Go.Proofs.YtniehbjoogaccaaGreatDoor
namespace Go.Proofs.YtniehbjoogaccaaGreatDoor
open Go.RowKit Go.Shelf
theorem index_at : ∀ (l : List UInt8) (c : UInt8) (k : Nat), k < l.length → l.getD k 0 = c → (∀ j, j < k → l.getD j 0 ≠ c) → Lib.indexByte l c = (k : Int)
  | [], _, k, h, _, _ => absurd h (Nat.not_lt_zero k)
  | x :: r, c, 0, _, h, _ => by
    have : x = c := h
    subst this
    simp [Lib.indexByte]
  | x :: r, c, k + 1, h, hk, hj => by
    have hx : x ≠ c := hj 0 (Nat.succ_pos k)
    have ih := index_at r c k (by simpa using h) hk (fun j hjk => hj (j + 1) (by omega))
    unfold Lib.indexByte
    rw [if_neg (by simpa using hx), ih]
    simp
theorem index_no : ∀ (l : List UInt8) (c : UInt8), (∀ j, j < l.length → l.getD j 0 ≠ c) → Lib.indexByte l c = -1
  | [], _, _ => rfl
  | x :: r, c, h => by
    have hx : x ≠ c := h 0 (Nat.succ_pos _)
    have ih := index_no r c (fun j hj => h (j + 1) (by simpa using hj))
    unfold Lib.indexByte
    rw [if_neg (by simpa using hx), ih]
    simp
def atFst (b : UInt8) (l : List UInt8) : List UInt8 := if 0 ≤ Lib.indexByte l b then l.take (Lib.indexByte l b).toNat else l
def atSnd (b : UInt8) (l : List UInt8) : List UInt8 := if 0 ≤ Lib.indexByte l b then l.drop ((Lib.indexByte l b).toNat + 1) else []
def atOk (b : UInt8) (l : List UInt8) : Bool := decide (0 ≤ Lib.indexByte l b)
theorem at_found (b : UInt8) (l : List UInt8) (k : Nat) (h : Lib.indexByte l b = (k : Int)) : atFst b l = l.take k ∧ atSnd b l = l.drop (k + 1) ∧ atOk b l = true := by
  unfold atFst atSnd atOk
  rw [h]
  simp
theorem at_none (b : UInt8) (l : List UInt8) (h : Lib.indexByte l b = -1) : atFst b l = l ∧ atSnd b l = [] ∧ atOk b l = false := by
  unfold atFst atSnd atOk
  rw [h]
  simp
end Go.Proofs.YtniehbjoogaccaaGreatDoor
namespace Go.Proofs.YtniehbjoogaccaaGreatDoor.Jar
open Url Go.Sort
set_option linter.unusedVariables false
def unK (k : Key) : U := ⟨k.1, k.2.1, k.2.2, [], [], [], false, false⟩
def textK (k : Key) : List UInt8 := Org.placeU (unK k)
def KOk (k : Key) : Prop := ∃ u, Url.Ok u ∧ (textU u).length ≤ 4096 ∧ keyU u = k
abbrev KS := {k : Key // KOk k}
theorem key_inj (a b : KS) (h : textK a.1 = textK b.1) : a = b := by
  obtain ⟨a, u, hu, lu, rfl⟩ := a
  obtain ⟨b, v, hv, lv, rfl⟩ := b
  apply Subtype.ext
  obtain ⟨h1, h2, h3⟩ := Org.place_inj u v hu hv lu lv h
  show keyU u = keyU v
  unfold keyU
  rw [h1, h2, h3]
theorem cb_eq : ∀ a b : List UInt8, Lib.compareBytes a b = cmpL a b
  | [], [] => rfl
  | [], _ :: _ => rfl
  | _ :: _, [] => rfl
  | x :: a, y :: b => by
    unfold Lib.compareBytes cmpL
    rw [cb_eq a b]
def cfK (a b : KS) : Int := Lib.compareBytes (textK a.1) (textK b.1)
theorem ltK (a b : KS) : ltOf cfK a b = decide (textK a.1 < textK b.1) := by
  unfold ltOf cfK
  rw [cb_eq]
  refine decide_eq_decide.2 ?_
  rw [← Frm.cmp_lt]
  rcases cmpL_bd (textK a.1) (textK b.1) with h | h | h <;> rw [h] <;> decide
theorem swoK : SWO (ltOf cfK) where
  irrefl := fun x => by rw [ltK, decide_eq_false_iff_not]; exact Lin.irr _
  trans := fun x y z h1 h2 => by
    rw [ltK, decide_eq_true_iff] at *
    exact Lin.tr h1 h2
  ntrans := fun x y z h1 h2 => by
    rw [ltK, decide_eq_false_iff_not] at *
    intro h3
    rcases Std.lt_trichotomy (textK x.1) (textK y.1) with h | h | h
    · exact h1 h
    · rw [h] at h3; exact h2 h3
    · exact h2 (Lin.tr h h3)
theorem totK (x y : KS) (h1 : ltOf cfK x y = false) (h2 : ltOf cfK y x = false) : x = y := by
  rw [ltK, decide_eq_false_iff_not] at h1 h2
  exact key_inj x y (lin_eq h1 h2)
def sortKs (l : List KS) : List KS := l.mergeSort fun x y => !(ltOf cfK) y x
theorem sortKs_perm (l : List KS) : (sortKs l).Perm l := List.mergeSort_perm _ _
theorem sortKs_texts (l : List KS) (hn : l.Nodup) : (sortKs l).map (fun k => textK k.1) = Frm.sortR (l.map fun k => textK k.1) := by
  refine rises_ext ?_ (Frm.sort_rises _) fun a => ?_
  · have hp : (sortKs l).Pairwise fun x y => (!(ltOf cfK) y x) = true := by
      refine List.pairwise_mergeSort (fun x y z h1 h2 => ?_) (fun x y => ?_) l
      · rw [Bool.not_eq_true'] at *
        exact swoK.ntrans z y x h2 h1
      · rw [Bool.or_eq_true, Bool.not_eq_true', Bool.not_eq_true', ltK, ltK, decide_eq_false_iff_not, decide_eq_false_iff_not]
        by_cases h : textK y.1 < textK x.1
        · exact .inr (lin_asym h)
        · exact .inl h
    have hd : (sortKs l).Nodup := (sortKs_perm l).nodup_iff.2 hn
    unfold Rises
    rw [List.pairwise_map]
    have h2 := List.Pairwise.and hp hd
    refine h2.imp ?_
    rintro x y ⟨h1, h3⟩
    rw [Bool.not_eq_true', ltK, decide_eq_false_iff_not] at h1
    rcases Std.lt_trichotomy (textK x.1) (textK y.1) with h | h | h
    · exact h
    · exact absurd (key_inj x y h) h3
    · exact absurd h h1
  · rw [Frm.mem_sort, List.mem_map, List.mem_map]
    constructor
    · rintro ⟨k, hk, rfl⟩
      exact ⟨k, (sortKs_perm l).mem_iff.1 hk, rfl⟩
    · rintro ⟨k, hk, rfl⟩
      exact ⟨k, (sortKs_perm l).mem_iff.2 hk, rfl⟩
theorem nodup_few {α : Type} [DecidableEq α] : ∀ (a b : List α), a.Nodup → (∀ x ∈ a, x ∈ b) → a.length ≤ b.length
  | [], _, _, _ => Nat.zero_le _
  | x :: r, b, hn, h => by
    rw [List.nodup_cons] at hn
    have ih := nodup_few r (b.erase x) hn.2 (fun y hy => (List.mem_erase_of_ne (show y ≠ x from fun e => hn.1 (by rw [← e]; exact hy))).2 (h y (by simp [hy])))
    rw [List.length_erase_of_mem (h x (by simp))] at ih
    have := List.length_pos_of_mem (h x (by simp))
    rw [List.length_cons]
    omega
def ownersJ (l : List En) : List (List UInt8) := Frm.sortR (l.map fun e => Org.placeU e.at_)
theorem owners_keys {l : List En} {ks : List Key} (h : ∀ k, k ∈ ks ↔ ∃ e ∈ l, keyU e.at_ = k) : Frm.sortR (ks.map textK) = ownersJ l := by
  unfold ownersJ
  refine rises_ext (Frm.sort_rises _) (Frm.sort_rises _) fun a => ?_
  rw [Frm.mem_sort, Frm.mem_sort, List.mem_map, List.mem_map]
  constructor
  · rintro ⟨k, hk, rfl⟩
    obtain ⟨e, he, rfl⟩ := (h k).1 hk
    exact ⟨e, he, rfl⟩
  · rintro ⟨e, he, rfl⟩
    exact ⟨_, (h _).2 ⟨e, he, rfl⟩, rfl⟩
end Go.Proofs.YtniehbjoogaccaaGreatDoor.Jar
namespace Go.Proofs.YtniehbjoogaccaaGreatDoor
theorem piecesOf_cons (l : List UInt8) (x : Nat × Nat) (r : List (Nat × Nat)) : piecesOf l (x :: r) = sub l x.1 x.2 :: piecesOf l r := rfl
theorem pieces_go (c : UInt8) (l : List UInt8) : ∀ (r : List UInt8) (i f : Nat), l.drop i = r → f ≤ i → i ≤ l.length → piecesOf l (spansGo (isB c) r i f) = Ref.onto (sub l f i) (Ref.splitL c r)
  | [], i, f, _, _, _ => by
    unfold spansGo
    rw [piecesOf_cons]
    simp [piecesOf, Ref.splitL, Ref.onto]
  | b :: r, i, f, hd, hf, hi => by
    have hlt : i < l.length := by
      rcases Nat.lt_or_ge i l.length with h | h
      · exact h
      · rw [List.drop_of_length_le h] at hd; cases hd
    have hdc := drop_cons l i hlt
    rw [hd] at hdc
    simp only [List.cons.injEq] at hdc
    have hb : b = l.getD i 0 := hdc.1
    have hr : l.drop (i + 1) = r := hdc.2.symm
    by_cases h : b = c
    · have hp : isB c b = true := by unfold isB; rw [beq_iff_eq]; exact h
      have e : spansGo (isB c) (b :: r) i f = (f, i) :: spansGo (isB c) r (i + 1) (i + 1) := by conv => lhs; unfold spansGo; rw [if_pos hp]
      rw [e, piecesOf_cons, pieces_go c l r (i + 1) (i + 1) hr (Nat.le_refl _) hlt, sub_nil, h, Ref.split_is, Ref.onto_nil _ (Ref.split_ne c r)]
      simp [Ref.onto]
    · have hp : ¬ isB c b = true := by unfold isB; rw [beq_iff_eq]; exact h
      have e : spansGo (isB c) (b :: r) i f = spansGo (isB c) r (i + 1) f := by conv => lhs; unfold spansGo; rw [if_neg hp]
      rw [e, pieces_go c l r (i + 1) f hr (by omega) hlt, sub_snoc l f i hf hlt, Ref.split_not c b r h, ← hb, Ref.onto_onto _ _ _ (Ref.split_ne c r)]
theorem pieces_split (c : UInt8) (l : List UInt8) : piecesOf l (spansL (isB c) l) = Ref.splitL c l := by
  unfold spansL
  rw [pieces_go c l l 0 0 (List.drop_zero) (Nat.le_refl _) (Nat.zero_le _), sub_nil, Ref.onto_nil _ (Ref.split_ne c l)]
theorem digit_dec (b : UInt8) : digitB b = Ref.decB b := rfl
theorem numGo_ref (most : Int) : ∀ (l : List UInt8) (n : Int), numGo most l n = Ref.numGo most l n
  | [], _ => rfl
  | b :: r, n => by
    unfold numGo Ref.numGo
    rw [digit_dec, numGo_ref most r]
theorem numOf_ref (most : Int) (l : List UInt8) : numOf most l = Ref.numOf most l := by
  unfold numOf Ref.numOf
  rw [numGo_ref]
end Go.Proofs.YtniehbjoogaccaaGreatDoor
namespace Go.Proofs.YtniehbjoogaccaaGreatDoor
open Go.RowKit Go.Shelf
theorem bytesOf_numsL (l : List UInt8) : Lib.bytesOf (Lib.numsL l) = l := by
  unfold Lib.bytesOf Lib.numsL
  rw [List.map_map]
  conv => rhs; rw [← List.map_id l]
  apply List.map_congr_left
  intro b _
  simp
theorem IndexByte_any (q : Option Addr) (n c : Nat) (l : List UInt8) (b : UInt8) (w : World) (hl : l.length = n) (hq : q = none → n = 0 ∧ c = 0) (h : Lib.BytesIn w q n (Lib.numsL l)) :
    Calls Tryz.prog 131 #[.slice q n c, .int .u8 (b.toNat : Int)] w fun e w' => e = .returned (.int .i64 (Lib.indexByte l b)) ∧ w' = w := by
  cases q with
  | none =>
    obtain ⟨rfl, rfl⟩ := hq rfl
    obtain rfl : l = [] := List.eq_nil_of_length_eq_zero hl
    exact Tryz.bytes_IndexByte_nil (b.toNat : Int) w
  | some a =>
    have h1 := Tryz.bytes_IndexByte_at a n c (Lib.numsL l) (b.toNat : Int) w (by rw [Lib.numsL_length, hl]) (fun i hi => by
      obtain ⟨b', o, he, hc⟩ := h.at (by omega)
      cases he
      rw [Go.WideShapes.add_plain]
      exact hc i hi)
    rw [bytesOf_numsL, show (b.toNat : Int).toNat.toUInt8 = b from by simp] at h1
    exact h1
theorem index_lt : ∀ (l : List UInt8) (c : UInt8), Lib.indexByte l c < (l.length : Int)
  | [], _ => by simp [Lib.indexByte]
  | x :: r, c => by
    have ih := index_lt r c
    unfold Lib.indexByte
    split
    · simp
    · simp only [beq_iff_eq]
      split <;> simp <;> omega
theorem run_slice_to (q : Option Addr) (n c j : Nat) (W : World) (hj : j ≤ c) :
    (Instr.slice 29 (.slice q n c) none (some (.int .i64 (j : Int))) none).run Tryz.prog W = .ok (.slice (subA q c 0) j c) W := by
  have hs : ∀ w, (Go.sizeOf 5).run Tryz.prog w = .ok 1 w := Tryz.sizeOf5
  have he : Tryz.prog.elem 29 = 5 := by kernel_rfl
  have h := run_slice_h (P := Tryz.prog) (w := W) 29 q n c (by rw [he]; exact Tryz.underlying29) .i64 j (by omega) (by omega)
  rw [h, he, hs]
  simp [Result.andThen, sliced, subA]
theorem run_slice_from (q : Option Addr) (n c i : Nat) (W : World) (hi : i + 1 ≤ n) :
    (Instr.slice 29 (.slice q n c) (some (.int .i64 ((i : Int) + 1))) none none).run Tryz.prog W = .ok (.slice (subA q c (i + 1)) (n - (i + 1)) (c - (i + 1))) W := by
  have hs : ∀ w, (Go.sizeOf 5).run Tryz.prog w = .ok 1 w := Tryz.sizeOf5
  have he : Tryz.prog.elem 29 = 5 := by kernel_rfl
  have h := run_slice_l (P := Tryz.prog) (w := W) 29 q n c (by rw [he]; exact Tryz.underlying29) .i64 ((i : Int) + 1) (by omega) (by omega)
  rw [h, he, hs]
  simp only [Result.andThen, sliced, subA, Nat.mul_one, show ((i : Int) + 1).toNat = i + 1 from by omega]
theorem sub_to (l : List UInt8) (k : Nat) : sub l 0 k = l.take k := by unfold sub; simp
theorem sub_from (l : List UInt8) (k : Nat) : sub l k l.length = l.drop k := by unfold sub; rw [List.take_of_length_le (by simp)]
set_option maxRecDepth 100000 in
set_option maxHeartbeats 8000000 in
theorem At_any (q : Option Addr) (n c : Nat) (l : List UInt8) (b : UInt8) (w : World) (hl : l.length = n) (hn : n ≤ 1099511627775) (hcp : n ≤ c) (hq : q = none → n = 0 ∧ c = 0) (h : Lib.BytesIn w q n (Lib.numsL l)) :
    Calls Tryz.prog 85 #[.slice q n c, .int .u8 (b.toNat : Int)] w fun e w' => ∃ v1 v2, e = .returned (.tuple #[v1, v2, .bool (atOk b l)]) ∧
      w'.ownsRow w.heap.size 5 1 v1 (atFst b l).length ((Lib.numsL (atFst b l)).map (Value.int .u8)) ∧
      w'.ownsRow w.heap.size 5 1 v2 (atSnd b l).length ((Lib.numsL (atSnd b l)).map (Value.int .u8)) ∧ Below w.heap.size w w' := by
  have hix := IndexByte_any q n c l b w hl hq h
  have hge := Lib.indexByte_ge l b
  have hlt := index_lt l b
  by_cases h0 : 0 ≤ Lib.indexByte l b
  · obtain ⟨k, hk⟩ : ∃ k : Nat, Lib.indexByte l b = (k : Int) := ⟨(Lib.indexByte l b).toNat, by omega⟩
    obtain ⟨e1, e2, e3⟩ := at_found b l k hk
    rw [hk] at hix hlt
    have hkn : k < n := by omega
    rw [e1, e2, e3]
    have hb1 := bytes_sub h hl (Nat.zero_le k) (by omega) hcp
    have hb2 := bytes_sub h hl (show k + 1 ≤ n from hkn) (Nat.le_refl n) hcp
    have hs2 : sub l (k + 1) n = l.drop (k + 1) := by rw [← hl]; exact sub_from l (k + 1)
    rw [sub_to, Nat.sub_zero] at hb1
    rw [hs2] at hb2
    have hl1 : (l.take k).length = k := by rw [List.length_take]; omega
    have hl2 : (l.drop (k + 1)).length = n - (k + 1) := by rw [List.length_drop]; omega
    have hwr : IntKind.i64.wrap ((k : Int) + 1) = (k : Int) + 1 := by rw [IntKind.wrap_i64]; omega
    have hr1 : ∀ W, (Instr.slice 29 (.slice q n c) none (some (.int .i64 (k : Int))) none).run Tryz.prog W = .ok (.slice (subA q c 0) k c) W := fun W => run_slice_to q n c k W (by omega)
    have hr2 : ∀ W, (Instr.slice 29 (.slice q n c) (some (.int .i64 ((k : Int) + 1))) none none).run Tryz.prog W = .ok (.slice (subA q c (k + 1)) (n - (k + 1)) (c - (k + 1))) W := fun W => run_slice_from q n c k W hkn
    clear e1 e2 e3 h0 hge hk hs2 h
    rw [hl1, hl2]
    generalize l.take k = l1 at *
    generalize l.drop (k + 1) = l2 at *
    generalize hqa : subA q c 0 = qa at *
    generalize hqb : subA q c (k + 1) = qb at *
    clear hqa hqb
    go_enter Tryz.func85, Tryz.ntmps85
    go_wp2_with fail
    refine hix.mono ?_
    rintro e w' ⟨rfl, hw⟩
    subst hw
    go_wp2_with fail
    refine pregion_any (fun _ => True) (by kernel_rfl) ?_
    refine wpAnyH_take (i := 0) (v := .slice q n c) rfl (by kernel_rfl) (by kernel_rfl) (by kernel_rfl) (fun _ _ _ h => h) (.inl ⟨by kernel_rfl, ?_⟩) trivial ?_
    · rintro w -; go_simp
    refine wpAnyH_take (i := 1) (v := .int .i64 (k : Int)) rfl (by kernel_rfl) (by kernel_rfl) (by kernel_rfl) (fun _ _ _ h => h) (.inl ⟨by kernel_rfl, ?_⟩) trivial ?_
    · rintro w -; go_simp
    refine wpAnyH_take (i := 2) (v := .slice qa k c) rfl (by kernel_rfl) (by kernel_rfl) (by kernel_rfl) (fun _ _ _ h => h) (.inl ⟨by kernel_rfl, ?_⟩) trivial ?_
    · rintro w -; go_simp
    refine wpAnyH_take (i := 4) (v := .slice q n c) rfl (by kernel_rfl) (by kernel_rfl) (by kernel_rfl) (fun _ _ _ h => h) (.inl ⟨by kernel_rfl, ?_⟩) trivial ?_
    · rintro w -; go_simp
    refine wpAnyH_take (i := 5) (v := .int .i64 (k : Int)) rfl (by kernel_rfl) (by kernel_rfl) (by kernel_rfl) (fun _ _ _ h => h) (.inl ⟨by kernel_rfl, ?_⟩) trivial ?_
    · rintro w -; go_simp
    refine wpAnyH_take (i := 6) (v := .int .i64 ((k : Int) + 1)) rfl (by kernel_rfl) (by kernel_rfl) (by kernel_rfl) (fun _ _ _ h => h) (.inl ⟨by kernel_rfl, ?_⟩) trivial ?_
    · rintro w -; go_simp
    refine wpAnyH_take (i := 7) (v := .slice qb (n - (k + 1)) (c - (k + 1))) rfl (by kernel_rfl) (by kernel_rfl) (by kernel_rfl) (fun _ _ _ h => h) (.inl ⟨by kernel_rfl, ?_⟩) trivial ?_
    · rintro w -; go_simp
    have hd1 := bytes_keep hb1 (Keep.drew (fun _ => True) _) (fun _ _ _ => trivial)
    have hd2 := bytes_keep hb2 (Keep.drew (fun _ => True) _) (fun _ _ _ => trivial)
    refine pone 3 (by kernel_rfl) rfl fun K hK => ?_
    go_simp
    refine (Clone_any qa k c l1 _ hl1 (by omega) hd1).mono ?_
    rintro e w1 ⟨v1, rfl, hrow1, hbel1⟩
    have hd3 := bytes_keep hd2 (Keep.of_below hbel1) (fun a h1 h2 => bytes_lt hd2 a h1 h2)
    rw [drew_size] at hrow1 hbel1
    refine hK _ _ trivial ?_
    clear hK K
    refine pone 8 (by kernel_rfl) rfl fun K hK => ?_
    go_simp
    refine (Clone_any qb (n - (k + 1)) (c - (k + 1)) l2 _ hl2 (by omega) hd3).mono ?_
    rintro e w2 ⟨v2, rfl, hrow2, hbel2⟩
    have hrow1' := (Keep.of_below hbel2).row hrow1 (fun b hb => (hrow1.lt b hb).2)
    have hsz := hbel1.size
    rw [drew_size] at hsz
    have hrow2' := row_base hrow2 hsz
    have hfin : Below w'.heap.size w' w2 := (Below.refl _ _).drew.trans (hbel1.trans (hbel2.mono hsz))
    refine hK _ _ trivial ?_
    clear hK K hrow1 hrow2 hbel1 hbel2 hd1 hd2 hd3 hb1 hb2
    refine wpAnyH_take (i := 9) (v := v1) rfl (by kernel_rfl) (by kernel_rfl) (by kernel_rfl) (fun _ _ _ h => h) (.inl ⟨by kernel_rfl, ?_⟩) trivial ?_
    · rintro w -; go_simp
    refine wpAnyH_take (i := 10) (v := v2) rfl (by kernel_rfl) (by kernel_rfl) (by kernel_rfl) (fun _ _ _ h => h) (.inl ⟨by kernel_rfl, ?_⟩) trivial ?_
    · rintro w -; go_simp
    refine wpAnyH_take (i := 11) (v := .bool true) rfl (by kernel_rfl) (by kernel_rfl) (by kernel_rfl) (fun _ _ _ h => h) (.inl ⟨by kernel_rfl, ?_⟩) trivial ?_
    · rintro w -; go_simp
    refine pdone (by kernel_rfl) ?_ _
    go_wp2
    go_ret3
    exact ⟨v1, v2, rfl, hrow1', hrow2', hfin⟩
  · have hk : Lib.indexByte l b = -1 := by omega
    obtain ⟨e1, e2, e3⟩ := at_none b l hk
    rw [hk] at hix
    rw [e1, e2, e3, hl]
    clear e1 e2 e3 h0 hge hk hlt
    go_enter Tryz.func85, Tryz.ntmps85
    go_wp2_with fail
    refine hix.mono ?_
    rintro e w' ⟨rfl, hw⟩
    subst hw
    go_wp2_with fail
    refine (Clone_any q n c l _ hl (by omega) h).mono ?_
    rintro e w1 ⟨v1, rfl, hrow1, hbel1⟩
    go_wp2
    go_ret3
    exact ⟨v1, _, rfl, hrow1, World.ownsRow_nil _ _ _ _, hbel1⟩
end Go.Proofs.YtniehbjoogaccaaGreatDoor
namespace Go.Proofs.YtniehbjoogaccaaGreatDoor.Host
open Go.RowKit Go.Shelf Ref
set_option maxHeartbeats 1000000 in
theorem isDigit_any (b : UInt8) (w : World) :
    Calls Tryz.prog 172 #[.int .u8 (b.toNat : Int)] w fun e w' => e = .returned (.bool (Ref.decB b)) ∧ w = w' := by
  have hb := Ref.u8_lt b
  by_cases h1 : 48 ≤ b.toNat
  · by_cases h2 : b.toNat ≤ 57
    · have H := Lib.hid (show Ref.decB b = true by simp [Ref.decB]; omega)
      have d1 : decide ((48 : Int) ≤ (b.toNat : Int)) = true := by simp; omega
      have d2 : decide ((b.toNat : Int) ≤ (57 : Int)) = true := by simp; omega
      go_enter Tryz.func172, Tryz.ntmps172
      go_wp2
      go_ret
      exact ⟨(by rw [H.out]; try rfl), rfl⟩
    · have H := Lib.hid (show Ref.decB b = false by simp [Ref.decB]; omega)
      have d2 : decide ((b.toNat : Int) ≤ (57 : Int)) = false := by simp; omega
      go_enter Tryz.func172, Tryz.ntmps172
      go_wp2
      go_ret
      exact ⟨(by rw [H.out]; try rfl), rfl⟩
  · have H := Lib.hid (show Ref.decB b = false by simp [Ref.decB]; omega)
    have d1 : decide ((48 : Int) ≤ (b.toNat : Int)) = false := by simp; omega
    go_enter Tryz.func172, Tryz.ntmps172
    go_wp2
    go_ret
    exact ⟨(by rw [H.out]; try rfl), rfl⟩
set_option maxHeartbeats 1000000 in
theorem isLetter_any (b : UInt8) (w : World) :
    Calls Tryz.prog 200 #[.int .u8 (b.toNat : Int)] w fun e w' => e = .returned (.bool (Ref.letB b)) ∧ w = w' := by
  have hb := Ref.u8_lt b
  obtain ⟨x1, h1⟩ : ∃ x, decide ((65 : Int) ≤ (b.toNat : Int)) = x := ⟨_, rfl⟩
  obtain ⟨x2, h2⟩ : ∃ x, decide ((b.toNat : Int) ≤ (90 : Int)) = x := ⟨_, rfl⟩
  obtain ⟨x3, h3⟩ : ∃ x, decide ((97 : Int) ≤ (b.toNat : Int)) = x := ⟨_, rfl⟩
  obtain ⟨x4, h4⟩ : ∃ x, decide ((b.toNat : Int) ≤ (122 : Int)) = x := ⟨_, rfl⟩
  have H := Lib.hid (show Ref.letB b = ((x1 && x2) || (x3 && x4)) by
    rw [← h1, ← h2, ← h3, ← h4, Bool.eq_iff_iff]
    simp only [Ref.letB, decide_eq_true_eq, Bool.or_eq_true, Bool.and_eq_true]
    omega)
  cases x1 <;> cases x2 <;> cases x3 <;> cases x4
  all_goals
    go_enter Tryz.func200, Tryz.ntmps200
    go_wp2
    go_ret
    exact ⟨(by rw [H.out]; try rfl), rfl⟩
theorem part_parts (p : List UInt8) : partB p = (!p.isEmpty && decide (p.length ≤ 63) && p.getD 0 0 != 45 && p.getD (p.length - 1) 0 != 45 && p.all hostByte) := rfl
theorem hostByte_of (b : UInt8) : hostByte b = (Ref.letB b || Ref.decB b || b == 45) := rfl
theorem all_host_drop (l : List UInt8) (k : Nat) (h : k < l.length) : (l.drop k).all hostByte = (hostByte (l.getD k 0) && (l.drop (k + 1)).all hostByte) := by
  rw [Ref.drop_cons l k h, List.all_cons]
set_option maxRecDepth 100000 in
set_option maxHeartbeats 8000000 in
theorem isPart_any (q : Option Addr) (n c : Nat) (l : List UInt8) (w : World) (hl : l.length = n) (hn : n ≤ 140737488355328) (h : Lib.BytesIn w q n (Lib.numsL l)) :
    Calls Tryz.prog 171 #[.slice q n c] w fun e w' => e = .returned (.bool (partB l)) ∧ w = w' := by
  have PP := Lib.hid (part_parts l)
  by_cases hz : n = 0
  · subst hz
    obtain rfl : l = [] := List.eq_nil_of_length_eq_zero hl
    have H := Lib.hid (show partB [] = false from rfl)
    clear PP h
    go_enter Tryz.func171, Tryz.ntmps171
    go_wp2
    go_ret
    exact ⟨(by rw [H.out]; try rfl), rfl⟩
  · have hz' : 0 < n := by omega
    have e0 : ((n : Int) == 0) = false := by rw [beq_eq_false_iff_ne]; omega
    have hne : l.isEmpty = false := by cases l with | nil => simp at hl; omega | cons a r => rfl
    obtain ⟨b, o, rfl, hc⟩ := h.at hz'
    have HC := Lib.hid (fun k (hk : k < n) => show w.cell? ⟨b, o + k, none⟩ = some (.int .u8 ((l.getD k 0).toNat : Int)) by rw [hc k hk, numsL_getD l k (by omega)])
    clear hc h
    by_cases h63 : 63 < n
    · have d3 : decide ((63 : Int) < (n : Int)) = true := by simp; omega
      have H := Lib.hid (show partB l = false by rw [PP.out, hl, decide_eq_false (by omega)]; simp)
      clear PP HC hl hz hne
      go_enter Tryz.func171, Tryz.ntmps171
      go_wp2
      go_ret
      exact ⟨(by rw [H.out]; try rfl), rfl⟩
    · have d3 : decide ((63 : Int) < (n : Int)) = false := by simp; omega
      have ck0 : w.cell? ⟨b, o, none⟩ = some (.int .u8 ((l.getD 0 0).toNat : Int)) := HC.out 0 hz'
      have ckl := HC.out (n - 1) (by omega)
      have PQ := Lib.hid (show partB l = (l.getD 0 0 != 45 && l.getD (n - 1) 0 != 45 && l.all hostByte) by rw [PP.out, hl, decide_eq_true (by omega), hne]; simp)
      have wn : IntKind.i64.wrap ((n : Int) - 1) = ((n - 1 : Nat) : Int) := by rw [IntKind.wrap_i64]; omega
      clear PP hne
      generalize l.getD 0 0 = b0 at *
      by_cases h45 : b0 = 45
      · have e1 : ((b0.toNat : Int) == 45) = true := by rw [h45]; rfl
        have H := Lib.hid (show partB l = false by rw [PQ.out, h45]; rfl)
        clear PQ HC hl hz h45 ckl wn
        go_enter Tryz.func171, Tryz.ntmps171
        go_wp2
        go_ret
        exact ⟨(by rw [H.out]; try rfl), rfl⟩
      · have e1 : ((b0.toNat : Int) == 45) = false := by
          rw [beq_eq_false_iff_ne]; intro h; exact h45 (UInt8.toNat_inj.1 (by have : (45 : UInt8).toNat = 45 := rfl; omega))
        generalize l.getD (n - 1) 0 = bl at *
        by_cases h45' : bl = 45
        · have e2 : ((bl.toNat : Int) == 45) = true := by rw [h45']; rfl
          have H := Lib.hid (show partB l = false by rw [PQ.out, h45']; simp)
          clear PQ HC hl h45 h45'
          go_enter Tryz.func171, Tryz.ntmps171
          go_wp2
          go_ret
          exact ⟨(by rw [H.out]; try rfl), rfl⟩
        · have e2 : ((bl.toNat : Int) == 45) = false := by
            rw [beq_eq_false_iff_ne]; intro h; exact h45' (UInt8.toNat_inj.1 (by have : (45 : UInt8).toNat = 45 := rfl; omega))
          have PA := Lib.hid (show partB l = l.all hostByte by rw [PQ.out, bne_iff_ne.2 h45, bne_iff_ne.2 h45']; simp)
          clear PQ h45 h45'
          have HL := Lib.hid hl
          clear hl
          go_enter Tryz.func171, Tryz.ntmps171
          go_wp2
          clear e0 e1 e2 d3 ck0 ckl wn hz
          go_loop [30] (fun i => ∃ k : Nat, k ≤ n ∧ i = .int .i64 k ∧ Hid (partB l = (l.drop k).all hostByte)) (fun i => n - (intOf i).toNat)
          case atStart => exact ⟨0, Nat.zero_le _, rfl, PA⟩
          case round =>
            obtain ⟨k, hk, rfl, HR⟩ := hrel
            by_cases hlt : k < n
            · have ck := HC.out k hlt
              have hd := all_host_drop l k (by rw [HL.out]; exact hlt)
              rw [hostByte_of] at hd
              generalize l.getD k 0 = bk at *
              have c1 := isLetter_any bk
              have c2 := isDigit_any bk
              have hbk := Ref.u8_lt bk
              cases hle : Ref.letB bk with
              | true =>
                rw [hle] at c1 hd
                have HR2 := Lib.hid (show partB l = (l.drop (k + 1)).all hostByte by rw [HR.out, hd]; simp)
                clear hd hle HR c2 PA
                go_wp2_with (go_at_call 200; refine (c1 _).mono ?_; rintro e w' ⟨rfl, rfl⟩)
                go_round
                case rel => exact ⟨k + 1, by omega, by go_num, HR2⟩
                case measure => simp [intOf]; omega
              | false =>
                cases hde : Ref.decB bk with
                | true =>
                  rw [hle] at c1 hd
                  rw [hde] at c2 hd
                  have HR2 := Lib.hid (show partB l = (l.drop (k + 1)).all hostByte by rw [HR.out, hd]; simp)
                  clear hd hle hde HR PA
                  go_wp2_with (first | (go_at_call 200; refine (c1 _).mono ?_; rintro e w' ⟨rfl, rfl⟩) | (go_at_call 172; refine (c2 _).mono ?_; rintro e w' ⟨rfl, rfl⟩))
                  go_round
                  case rel => exact ⟨k + 1, by omega, by go_num, HR2⟩
                  case measure => simp [intOf]; omega
                | false =>
                  rw [hle] at c1 hd
                  rw [hde] at c2 hd
                  by_cases hmi : bk = 45
                  · have e3 : ((bk.toNat : Int) != 45) = false := by rw [hmi]; rfl
                    have HR2 := Lib.hid (show partB l = (l.drop (k + 1)).all hostByte by rw [HR.out, hd, hmi]; rfl)
                    clear hd hle hde HR hmi PA
                    go_wp2_with (first | (go_at_call 200; refine (c1 _).mono ?_; rintro e w' ⟨rfl, rfl⟩) | (go_at_call 172; refine (c2 _).mono ?_; rintro e w' ⟨rfl, rfl⟩))
                    go_round
                    case rel => exact ⟨k + 1, by omega, by go_num, HR2⟩
                    case measure => simp [intOf]; omega
                  · have e3 : ((bk.toNat : Int) != 45) = true := by
                      rw [bne_iff_ne]; intro h; exact hmi (UInt8.toNat_inj.1 (by have : (45 : UInt8).toNat = 45 := rfl; omega))
                    have H := Lib.hid (show partB l = false by rw [HR.out, hd, beq_false_of_ne hmi]; rfl)
                    clear hd hle hde HR hmi PA
                    go_wp2_with (first | (go_at_call 200; refine (c1 _).mono ?_; rintro e w' ⟨rfl, rfl⟩) | (go_at_call 172; refine (c2 _).mono ?_; rintro e w' ⟨rfl, rfl⟩))
                    go_ret
                    exact ⟨(by rw [H.out]; try rfl), rfl⟩
            · have H := Lib.hid (show partB l = true by rw [HR.out, List.drop_of_length_le (by rw [HL.out]; omega)]; rfl)
              clear HR PA
              go_wp2
              go_ret
              exact ⟨(by rw [H.out]; try rfl), rfl⟩
end Go.Proofs.YtniehbjoogaccaaGreatDoor.Host
namespace Go.Proofs.YtniehbjoogaccaaGreatDoor
open Go.RowKit Go.Shelf
set_option maxHeartbeats 1000000 in
theorem isBlank_any (b : UInt8) (w : World) :
    Calls Tryz.prog 182 #[.int .u8 (b.toNat : Int)] w fun e w' => e = .returned (.bool (blankB b)) ∧ w = w' := by
  have hb := u8_lt b
  by_cases h1 : b.toNat = 32
  · have d1 : ((b.toNat : Int) == 32) = true := by rw [beq_iff_eq]; omega
    have H := Lib.hid (show blankB b = true by simp [blankB]; omega)
    clear h1
    go_enter Tryz.func182, Tryz.ntmps182
    go_wp2
    go_ret
    exact ⟨(by rw [H.out]; try rfl), rfl⟩
  · have d1 : ((b.toNat : Int) == 32) = false := by rw [beq_eq_false_iff_ne]; omega
    have H := Lib.hid (show blankB b = ((b.toNat : Int) == 9) by rw [Bool.eq_iff_iff, beq_iff_eq]; simp [blankB]; omega)
    clear h1
    go_enter Tryz.func182, Tryz.ntmps182
    go_wp2
    go_ret
    exact ⟨(by rw [H.out]; try rfl), rfl⟩
def Trims (l : List UInt8) (f e : Nat) : Prop :=
  (f = l.length ∧ e = l.length ∧ ∀ j, j < l.length → blankB (l.getD j 0) = true) ∨
  (f < e ∧ e ≤ l.length ∧ (∀ j, j < f → blankB (l.getD j 0) = true) ∧ blankB (l.getD f 0) = false ∧ blankB (l.getD (e - 1) 0) = false ∧ ∀ j, e ≤ j → j < l.length → blankB (l.getD j 0) = true)
theorem first_no (l : List UInt8) : ∀ (d m : Nat), l.length - m = d → (∀ j, j < m → blankB (l.getD j 0) = true) → m ≤ l.length →
    (∀ j, j < l.length → blankB (l.getD j 0) = true) ∨ ∃ f, f < l.length ∧ (∀ j, j < f → blankB (l.getD j 0) = true) ∧ blankB (l.getD f 0) = false
  | 0, m, hd, h, hm => .inl (fun j hj => h j (by omega))
  | d + 1, m, hd, h, hm => by
    by_cases hb : blankB (l.getD m 0) = true
    · exact first_no l d (m + 1) (by omega) (fun j hj => by
        by_cases he : j = m
        · subst he; exact hb
        · exact h j (by omega)) (by omega)
    · exact .inr ⟨m, by omega, h, by simpa using hb⟩
theorem last_no (l : List UInt8) (f : Nat) (hf : blankB (l.getD f 0) = false) : ∀ (m : Nat), f < m → m ≤ l.length → (∀ j, m ≤ j → j < l.length → blankB (l.getD j 0) = true) →
    ∃ e, f < e ∧ e ≤ l.length ∧ blankB (l.getD (e - 1) 0) = false ∧ ∀ j, e ≤ j → j < l.length → blankB (l.getD j 0) = true
  | 0, h, _, _ => absurd h (Nat.not_lt_zero f)
  | m + 1, h, hm, ha => by
    by_cases hb : blankB (l.getD m 0) = true
    · have hne : f ≠ m := by rintro rfl; rw [hf] at hb; cases hb
      exact last_no l f hf m (by omega) (by omega) (fun j hj hl => by
        by_cases he : j = m
        · subst he; exact hb
        · exact ha j (by omega) hl)
    · exact ⟨m + 1, h, hm, by rw [Nat.add_sub_cancel]; simpa using hb, ha⟩
theorem trims (l : List UInt8) : ∃ f e, Trims l f e := by
  rcases first_no l l.length 0 (by omega) (fun j hj => absurd hj (Nat.not_lt_zero j)) (Nat.zero_le _) with h | ⟨f, h1, h2, h3⟩
  · exact ⟨_, _, .inl ⟨rfl, rfl, h⟩⟩
  · obtain ⟨e, h4, h5, h6, h7⟩ := last_no l f h3 l.length h1 (Nat.le_refl _) (fun j h1 h2 => absurd h1 (by omega))
    exact ⟨f, e, .inr ⟨h4, h5, h2, h3, h6, h7⟩⟩
theorem Trims.le {l : List UInt8} {f e : Nat} (h : Trims l f e) : f ≤ e ∧ e ≤ l.length := by
  rcases h with ⟨h1, h2, _⟩ | ⟨h1, h2, _⟩ <;> omega
set_option maxRecDepth 100000 in
set_option maxHeartbeats 4000000 in
theorem cutTrim_any (q : Option Addr) (n c f e : Nat) (l : List UInt8) (w : World) (hl : l.length = n) (hn : n ≤ 1099511627775) (hnc : n ≤ c) (hb : Lib.BytesIn w q n (Lib.numsL l)) (ht : Trims l f e) :
    Calls Tryz.prog 143 #[.slice q n c] w fun e' w' => ∃ v', e' = .returned v' ∧ w'.ownsRow w.heap.size 5 1 v' (sub l f e).length ((Lib.numsL (sub l f e)).map (Value.int .u8)) ∧ Below w.heap.size w w' := by
  have hle := ht.le
  have con := Clone_any (subA q c f) (e - f) (c - f) (sub l f e) w (by rw [sub_length _ _ _ hle.2]) (by omega) (bytes_sub hb hl hle.1 (by omega) hnc)
  have hsl := fun W => run_slice_sub q n c f e W hle.1 (by omega)
  have hcell : ∀ j, j < n → ∃ b o, q = some ⟨b, o, none⟩ ∧ w.cell? ⟨b, o + j, none⟩ = some (.int .u8 ((l.getD j 0).toNat : Int)) := fun j hj => by
    obtain ⟨b, o, rfl, hc⟩ := hb.at (by omega)
    exact ⟨b, o, rfl, by rw [← numsL_getD l j (by omega)]; exact hc j hj⟩
  have hsz := sub_length l f e hle.2
  rw [hsz]
  rw [hl] at hle
  clear hb hsz
  go_enter Tryz.func143, Tryz.ntmps143
  go_wp2
  go_loop [3] (fun i => ∃ k : Nat, k ≤ f ∧ i = .int .i64 k) (fun i => f - (intOf i).toNat)
  case atStart => exact ⟨0, Nat.zero_le _, rfl⟩
  case round =>
    obtain ⟨k, hk, rfl⟩ := hrel
    by_cases hlt : k < f
    · obtain ⟨b, o, rfl, hck⟩ := hcell k (by omega)
      have hbk : blankB (l.getD k 0) = true := by
        rcases ht with ⟨h1, h2, h3⟩ | ⟨h1, h2, h3, _⟩
        · exact h3 k (by omega)
        · exact h3 k hlt
      have cb := isBlank_any (l.getD k 0)
      rw [hbk] at cb
      clear con hsl hcell ht hbk
      generalize l.getD k 0 = bk at *
      have hkn : k < n := by omega
      go_wp2_with (go_at_call 182; refine (cb _).mono ?_; rintro e w' ⟨rfl, rfl⟩)
      go_round
      case rel => exact ⟨k + 1, by omega, by go_num⟩
      case measure => simp [intOf]; omega
    · obtain rfl : k = f := by omega
      rcases ht with ⟨rfl, rfl, h3⟩ | ⟨h1, h2, h3, h4, h5, h6⟩
      · rw [hl] at hk con hsl hle hlt ⊢
        clear hcell h3
        rw [Nat.sub_self] at con hsl
        go_wp2_with fail
        go_loop [4] (fun i => i = .int .i64 (n : Int)) (fun _ => 0)
        case atStart => rfl
        case round =>
          obtain rfl := hrel
          go_wp2_with fail
          refine con.mono ?_
          rintro e w' ⟨v', rfl, hrow, hbel⟩
          go_wp2
          go_ret
          exact ⟨v', rfl, by first | exact hrow | (rw [Nat.sub_self, hl]; exact hrow), hbel⟩
      · obtain ⟨b, o, rfl, hck⟩ := hcell k (by omega)
        have cb := isBlank_any (l.getD k 0)
        rw [h4] at cb
        clear h4
        generalize l.getD k 0 = bk at *
        have hkn : k < n := by omega
        go_wp2_with fail
        refine (cb _).mono ?_
        rintro e w' ⟨rfl, rfl⟩
        go_wp2_with fail
        clear hck h3 hkn
        go_loop [4] (fun i => ∃ t : Nat, e ≤ t + 1 ∧ t + 1 ≤ n ∧ i = .int .i64 ((t : Int) + 1)) (fun i => (intOf i).toNat - e)
        case atStart => exact ⟨n - 1, by omega, by omega, by congr 1; omega⟩
        case round =>
          obtain ⟨t, ht1, ht2, rfl⟩ := hrel
          obtain ⟨b2, o2, hq2, hct⟩ := hcell t (by omega)
          cases hq2
          have ct := isBlank_any (l.getD t 0)
          have d3 : decide ((k : Int) < (t : Int) + 1) = true := by simp; omega
          by_cases het : e < t + 1
          · rw [h6 t (by omega) (by omega)] at ct
            clear h5 h6 con hsl cb hcell
            generalize l.getD t 0 = bt at *
            go_wp2_with fail
            refine (ct _).mono ?_
            rintro e w' ⟨rfl, rfl⟩
            go_wp2
            go_round
            case rel => exact ⟨t - 1, by omega, by omega, by go_num⟩
            case measure => simp [intOf]; omega
          · obtain rfl : e = t + 1 := by omega
            rw [Nat.add_sub_cancel] at h5
            rw [h5] at ct
            push_cast at hsl
            clear h5 h6 cb hcell
            generalize l.getD t 0 = bt at *
            go_wp2_with fail
            refine (ct _).mono ?_
            rintro e w' ⟨rfl, rfl⟩
            go_wp2_with fail
            refine con.mono ?_
            rintro e w' ⟨v', rfl, hrow, hbel⟩
            go_wp2
            go_ret
            exact ⟨_, rfl, hrow, hbel⟩
end Go.Proofs.YtniehbjoogaccaaGreatDoor
namespace Go.Proofs.YtniehbjoogaccaaGreatDoor.Url
theorem at_ahead (c : UInt8) (l : List UInt8) : atFst c l = aheadL c l ∧ Host.tailL c l = (if atOk c l = true then some (atSnd c l) else none) ∧ (atOk c l = false → atSnd c l = []) := by
  by_cases h : c ∈ l
  · obtain ⟨x, y, rfl, hx⟩ := List.eq_append_cons_of_mem h
    have hi : Lib.indexByte (x ++ c :: y) c = (x.length : Int) := index_at _ _ _ (by simp) (by simp [List.getD]) fun j hj => by
      intro e
      apply hx
      rw [← e, List.getD, List.getElem?_append_left hj, List.getElem?_eq_getElem hj]
      exact List.getElem_mem hj
    obtain ⟨h1, h2, h3⟩ := at_found c _ _ hi
    obtain ⟨h4, h5⟩ := ahead_yes c x y hx
    rw [h1, h2, h3, h4, h5, if_pos rfl]
    refine ⟨by simp, by simp, fun h => by cases h⟩
  · have hi : Lib.indexByte l c = -1 := index_no _ _ fun j hj e => h (by
      rw [← e, List.getD, List.getElem?_eq_getElem hj]
      exact List.getElem_mem hj)
    obtain ⟨h1, h2, h3⟩ := at_none c l hi
    obtain ⟨h4, h5⟩ := ahead_no c l h
    rw [h1, h2, h3, h4, h5]
    exact ⟨rfl, rfl, fun _ => rfl⟩
theorem at_len (c : UInt8) (l : List UInt8) : (atFst c l).length ≤ l.length ∧ (atSnd c l).length ≤ l.length := by
  refine ⟨by rw [(at_ahead c l).1]; exact ahead_len c l, ?_⟩
  unfold atSnd
  split
  · rw [List.length_drop]; omega
  · simp
def sepI (l : List UInt8) : Int := Lib.index l [58, 47, 47]
theorem sep_none (l : List UInt8) (h : sepI l = -1) : sepL l = none := by
  induction l with
  | nil => rfl
  | cons b r ih =>
    unfold sepI at h ih
    rw [Lib.index] at h
    split at h
    · cases h
    · rename_i hp
      split at h
      · rename_i hr
        unfold sepL
        split
        · rename_i t
          exact absurd (by simp [List.isPrefixOf]) hp
        · rw [ih (by simpa using hr)]; rfl
      · have := Lib.index_ge r [58, 47, 47]; omega
theorem sep_some : ∀ (l : List UInt8) (k : Nat), sepI l = (k : Int) → sepL l = some (l.take k, l.drop (k + 3)) ∧ k + 3 ≤ l.length
  | [], k, h => by
    unfold sepI at h
    rw [Lib.index] at h
    simp at h
  | b :: r, k, h => by
    have ih := sep_some r
    unfold sepI at h ih
    rw [Lib.index] at h
    split at h
    · rename_i hp
      obtain rfl : k = 0 := by omega
      have hp' : ([58, 47, 47] : List UInt8) <+: b :: r := List.isPrefixOf_iff_prefix.1 hp
      obtain ⟨t, ht⟩ := hp'
      rw [← ht]
      exact ⟨rfl, by simp⟩
    · rename_i hp
      split at h
      · omega
      · rename_i hr
        have hge := Lib.index_ge r [58, 47, 47]
        have hr' : Lib.index r [58, 47, 47] ≠ -1 := by simpa using hr
        obtain ⟨j, hj⟩ : ∃ j : Nat, Lib.index r [58, 47, 47] = (j : Int) := ⟨(Lib.index r [58, 47, 47]).toNat, by omega⟩
        obtain rfl : k = j + 1 := by omega
        obtain ⟨h1, h2⟩ := ih j hj
        refine ⟨?_, by rw [List.length_cons]; omega⟩
        unfold sepL
        split
        · exact absurd (by simp [List.isPrefixOf]) hp
        · rw [h1]
          simp
theorem sep_cases (l : List UInt8) : (sepI l = -1 ∧ sepL l = none) ∨ ∃ k : Nat, sepI l = (k : Int) ∧ k + 3 ≤ l.length ∧ sepL l = some (l.take k, l.drop (k + 3)) := by
  have hge : -1 ≤ sepI l := Lib.index_ge l _
  by_cases h : sepI l = -1
  · exact .inl ⟨h, sep_none l h⟩
  · have hk : sepI l = ((sepI l).toNat : Int) := by omega
    obtain ⟨h1, h2⟩ := sep_some l _ hk
    exact .inr ⟨_, hk, h2, h1⟩
end Go.Proofs.YtniehbjoogaccaaGreatDoor.Url
namespace Go.Proofs.YtniehbjoogaccaaGreatDoor.Host
open Go.RowKit Go.Shelf
attribute [local go_sem] Oper.semAt_some
theorem results_bool {fn : Func} {p : Tmp} (h : fn.results = #[.cell p 4]) (tmps : Array Value) (w : World) (B : Nat) (v : Value) (hp : tmps.getD p undef = .pointer (some ⟨B, 0, none⟩)) (hb : w.cell? ⟨B, 0, none⟩ = some v) :
    (results fn tmps).run Tryz.prog w = .ok v w := by
  have hp' : tmps[p]?.getD undef = .pointer (some ⟨B, 0, none⟩) := by simpa using hp
  have ha : ∀ w', (isAgg 4).run Tryz.prog w' = .ok false w' := Tryz.isAgg4
  have hl : (load ⟨B, 0, none⟩).run Tryz.prog w = .ok v w := by simp [go_sem, hb]
  simp [results, h, hp', asAddr, loadVar, ha, hl, Result.andThen]
def EvI {α : Type} (W0 : World) (E : List α → World → Prop) (pre : List α) (Pv : Nat → Prop) (W : World) : Prop := (∀ b, Pv b → W0.heap.size ≤ b) ∧ Keep (fun _ => False) W0 W ∧ E pre W
def EvX {α : Type} (W0 : World) (E : List α → World → Prop) (c : Code) (pre : List α) (Pv : Nat → Prop) (W : World) : Prop := c = .ret ∧ EvI W0 E pre Pv W
theorem EvI_abide {α : Type} {W0 : World} {E : List α → World → Prop} (hE : ∀ pre A B, Keep (fun b => b < W0.heap.size) A B → E pre A → E pre B) : Abide (EvI W0 E) := by
  rintro pre Pv Pv' A B ⟨h1, h2, h3⟩ hk hp
  refine ⟨fun b hb => ?_, h2.trans (hk.mono fun _ _ h => h.elim), hE _ _ _ (hk.mono fun b _ hb hn => by have := h1 b hn; omega) h3⟩
  rcases (hp b hb).1 with h | h
  · exact h1 b h
  · exact Nat.le_trans h2.size h
theorem EvX_abide {α : Type} {W0 : World} {E : List α → World → Prop} (hE : ∀ pre A B, Keep (fun b => b < W0.heap.size) A B → E pre A → E pre B) (c : Code) : Abide (EvX W0 E c) :=
  fun s Pv Pv' A B h hk hp => ⟨h.1, EvI_abide hE s Pv Pv' A B h.2 hk hp⟩
theorem splitX_snd (c : UInt8) (l : List UInt8) : (splitX c l).map Prod.snd = Ref.splitL c l := by
  rw [← pieces_split]
  unfold splitX splitOf piecesOf
  rw [List.map_map]
  apply List.ext_getElem?
  intro i
  simp only [List.getElem?_map, List.getElem?_zipIdx]
  cases (spansL (isB c) l)[i]? <;> rfl
theorem splitX_length (c : UInt8) (l : List UInt8) : (splitX c l).length = (Ref.splitL c l).length := by rw [← splitX_snd, List.length_map]
theorem addrX (l : List UInt8) : addrB (Ref.splitL 46 l) = (decide ((splitX 46 l).length = 4) && (splitX 46 l).all fun x => Ref.numB x.2) := by
  rw [Ref.addr_num, ← splitX_length, ← splitX_snd, List.all_map]
  rfl
def AdrE (w : World) (pre : List (Nat × List UInt8)) (W : World) : Prop :=
  Boxed W w.heap.size 4 (.bool false) ∧ Boxed W (w.heap.size + 1) 3 (.int .i64 pre.length) ∧ pre.all (fun x => Ref.numB x.2) = true ∧ Below w.heap.size w W
def AdrX (w : World) (xs : List (Nat × List UInt8)) (_ : List (Nat × List UInt8)) (W : World) : Prop :=
  Boxed W w.heap.size 4 (.bool false) ∧ xs.all (fun x => Ref.numB x.2) = false ∧ Below w.heap.size w W
set_option maxRecDepth 100000 in
set_option maxHeartbeats 4000000 in
theorem Address_any (q : Option Addr) (n c : Nat) (l : List UInt8) (w : World) (hl : l.length = n) (hn : n ≤ 140737488355328) (h : Lib.BytesIn w q n (Lib.numsL l)) :
    Calls Tryz.prog 173 #[.slice q n c] w fun e w' => e = .returned (.bool (addressB l)) ∧ Below w.heap.size w w' := by
  refine (callsIn_wide (n := 1)).1 ?_
  refine callsIn_of_wp_marks Tryz.func173 rfl trivial ?_ rfl
  simp only [Tryz.ntmps173, List.size_toArray, List.length_cons, List.length_nil, Nat.reduceAdd, Nat.reduceSub, Array.replicate_succ, Array.replicate_zero, List.push_toArray, List.append_toArray, List.nil_append, List.cons_append]
  by_cases hbig : 253 < n
  · have d1 : decide ((253 : Int) < (n : Int)) = true := by simp; omega
    have H := Lib.hid (address_big l (by omega))
    clear h hl
    gi_wp2
    exact ⟨_, results_bool rfl _ _ w.heap.size _ rfl (Boxed.new w _ _).cell, by rw [H.out], (Below.refl _ _).alloc (Nat.le_refl _) _⟩
  · have d1 : decide ((253 : Int) < (n : Int)) = false := by simp; omega
    have HA := Lib.hid ((address_of l (by omega)).trans (addrX l))
    obtain ⟨W0, hW0⟩ : ∃ W0, (w.alloc (.cells #[.bool false] 4)).alloc (.cells #[.int .i64 0] 3) = W0 := ⟨_, rfl⟩
    have b0 : Boxed W0 w.heap.size 4 (.bool false) := hW0 ▸ (Boxed.new w _ _).alloc _
    have b1 : Boxed W0 (w.heap.size + 1) 3 (.int .i64 0) := by
      have := Boxed.new (w.alloc (.cells #[.bool false] 4)) 3 (.int .i64 0)
      rw [World.size_alloc] at this
      exact hW0 ▸ this
    have hB0 : Below w.heap.size w W0 := hW0 ▸ ((Below.refl _ w).alloc (Nat.le_refl _) _).alloc (by simp) _
    have hs0 : W0.heap.size = w.heap.size + 2 := by rw [← hW0]; simp
    have hb0 := bytes_keep h (Keep.of_below hB0) (fun a h1 h2 => bytes_lt h a h1 h2)
    have con := Split_any q n c 46 l W0 hl (by omega) hb0
    have hsmall := splitX_small 46 l n hl
    have hlenX := splitX_len 46 l
    rw [hl] at hlenX
    have HW0 := Lib.hid hW0
    clear h hW0 hb0 hl
    gi_wp2_with fail
    rw [HW0.out]
    refine ⟨trivial, (callsIn_wide.2 con).mono ?_⟩
    rintro e W1 ⟨B, v', rfl, hB, hBc, hrow, hBl, hbel⟩
    have hit := Split_iter (by omega) hB hBc hrow
    have hRl0 : ∀ b, (b = B ∨ b = W0.heap.size ∨ v'.ownBlock = some b) → w.heap.size + 2 ≤ b ∧ b < W1.heap.size := fun b hb => by
      rcases hb with rfl | rfl | hb
      · exact ⟨by omega, hB.lt⟩
      · exact ⟨by omega, hBc.lt⟩
      · have := hrow.lt b hb; exact ⟨by omega, this.2⟩
    obtain ⟨RB, hRB⟩ : ∃ RB : Nat → Prop, RB = fun b => b = B ∨ b = W0.heap.size ∨ v'.ownBlock = some b := ⟨_, rfl⟩
    rw [← hRB, hs0] at hit
    have hRl : ∀ b, RB b → w.heap.size + 2 ≤ b ∧ b < W1.heap.size := fun b hb => hRl0 b (by rw [hRB] at hb; exact hb)
    clear hRB hRl0
    replace b0 := (Keep.of_below hbel).boxed b0 (by omega)
    replace b1 := (Keep.of_below hbel).boxed b1 (by omega)
    have hB1 := hB0.trans (hbel.mono hB0.size)
    have hs1 := hbel.size
    clear con hB hBc hrow hBl hbel HW0 hB0
    generalize splitX 46 l = xs at *
    gi_wp2
    rw [hs0] at hs1
    clear hs0
    refine rf_law (gf := 146) (lb := #[.pointer (some ⟨B, 0, none⟩), .pointer (some ⟨w.heap.size + 2, 0, none⟩)]) rfl (enters_of Tryz.func146 (by kernel_rfl) rfl)
      hit (Keep.refl _ _) (fun b hb => (hRl b hb).2) (fun x args G W h => by obtain ⟨v, rfl, _⟩ := h; rfl)
      (EvI W1 (AdrE w)) (EvX W1 (AdrX w xs)) (EvI_abide ?e1) (EvX_abide ?e2)
      ⟨(fun _ h => h.elim), Keep.refl _ _, b0, b1, rfl, hB1⟩ ?round ?done ?stop
    case e1 =>
      rintro pre A B hk ⟨h1, h2, h3, h4⟩
      exact ⟨hk.boxed h1 (by omega), hk.boxed h2 (by omega), h3, h4.trans ((hk.mono fun b _ hb => by omega).below h4.size)⟩
    case e2 =>
      rintro pre A B hk ⟨h1, h3, h4⟩
      exact ⟨hk.boxed h1 (by omega), h3, h4.trans ((hk.mono fun b _ hb => by omega).below h4.size)⟩
    case round =>
      rintro ll pre ⟨xi, x⟩ rest Pv G args Wr hll hxs ⟨hge, hK1, hE1, hE2, hE3, hE4⟩ hPl hGl hPb hGP ⟨p, rfl, hp, rfl⟩
      have hxm : (xi, x) ∈ xs := by rw [hxs]; simp
      have hxl := hsmall _ hxm
      simp only at hxl hp
      obtain ⟨qx, cx, rfl, _, hnc, hcm, hbs, hblk⟩ := row_open hp
      have hlen : pre.length + rest.length + 1 = xs.length := by rw [hxs]; simp; omega
      clear hxs
      gi_wp2
      refine ⟨Keep.refl _ _, fun W2 hk2 hs2 r hr => ?_⟩
      have k2 : Keep (fun b => b < W1.heap.size) Wr W2 := hk2.mono fun b _ hb h => by omega
      have f1 := k2.boxed hE1 (by omega)
      have f2 := k2.boxed hE2 (by omega)
      have gx : Keep (fun b => (Value.slice qx x.length cx).ownBlock = some b) Wr W2 := hk2.mono fun b _ hb h => hGl (h ▸ hb)
      have hbs2 : Lib.BytesIn W2 qx x.length (Lib.numsL x) := bytes_keep hbs gx (fun a ha _ => (hblk a ha).2.2)
      have con2 := Number_any qx x.length cx x 255 W2 rfl (by omega) hbs2 (by decide) (by decide)
      rw [numOf_ref] at con2
      unfold numV at con2
      have c1 := f1.cell
      have c2 := f2.cell
      have z1 := f1.frozen
      have z2 := f2.frozen
      have hW2 := hE4.trans ((k2.mono fun b _ h => by omega).below hE4.size)
      have hs2' := hE4.size
      have hK2 := hK1.trans (hk2.mono fun _ _ h => h.elim)
      clear hbs hp hbs2 hblk hk2 gx
      cases ho : Ref.numOf 255 x with
      | none =>
        have HB := Lib.hid (show xs.all (fun x => Ref.numB x.2) = false by
          rw [List.all_eq_false]; exact ⟨_, hxm, by unfold Ref.numB; rw [ho]; simp⟩)
        rw [ho] at con2
        clear ho hxm
        gi_wp2_with fail
        refine ⟨trivial, rfl, (CallsIn.inRound ll (callsIn_wide.2 con2)).mono ?_⟩
        rintro e w' ⟨rfl, rfl⟩
        clear con2
        gi_wp2
        refine ⟨Keep.setCell _ _ _ (fun h => ?_), rfl, fun b hb => hge b hb.1, hK2.trans (Keep.setCell _ _ _ (fun h => h)), f1.set _, HB.out, hW2.setCell (p := ⟨w.heap.size, 0, none⟩) (Nat.le_refl _) _⟩
        rcases h with h | h
        · have := (hRl _ h).1; simp only at this; omega
        · have := hge _ h.1; simp only at this; omega
      | some m =>
        have HB := Lib.hid (show (pre ++ [(xi, x)]).all (fun x => Ref.numB x.2) = true by
          rw [List.all_append, hE3]; simp [Ref.numB, ho])
        have HPL := Lib.hid (show ((pre ++ [(xi, x)]).length : Int) = (pre.length : Int) + 1 by simp)
        have hpl : (pre.length : Int) + 1 ≤ 9223372036854775807 := by omega
        rw [ho] at con2
        clear ho hxm
        gi_wp2_with fail
        refine ⟨trivial, rfl, (CallsIn.inRound ll (callsIn_wide.2 con2)).mono ?_⟩
        rintro e w' ⟨rfl, rfl⟩
        clear con2
        gi_wp2
        have kst : ∀ S : Nat → Prop, ¬ S (w.heap.size + 1) → Keep S W2 (W2.setCell ⟨w.heap.size + 1, 0, none⟩ (.int .i64 ((pre.length : Int) + 1))) := fun S h => Keep.setCell _ _ _ h
        refine ⟨kst _ (fun h => ?_), fun b hb => hge b hb.1, hK2.trans (kst _ (fun h => h)), (kst (fun b => b = w.heap.size) (by omega)).boxed f1 rfl, by rw [HPL.out]; exact f2.set _, HB.out, hW2.setCell (p := ⟨w.heap.size + 1, 0, none⟩) (Nat.le_succ _) _⟩
        rcases h with h | h
        · have := (hRl _ h).1; omega
        · have := hge _ h.1; omega
    case done =>
      rintro D Pv Wd hD hPD hPl ⟨hge, hK1, hE1, hE2, hE3, hE4⟩ hK
      have c1 := hE1.cell
      have c2 := hE2.cell
      have z1 := hE1.frozen
      have z2 := hE2.frozen
      gi_wp2
      have hKd : (Wd.setCell ⟨w.heap.size, 0, none⟩ (.bool ((xs.length : Int) == 4))).heap[D]? = some (.deferred (some [])) := (Keep.setCell (S := fun b => b = D) Wd ⟨w.heap.size, 0, none⟩ _ (show ¬ w.heap.size = D by omega)).heap rfl hK
      have kp : ∀ (S : Nat → Prop) (W : World), ¬ S D → Keep S W (W.putObj D (.deferred none)) := fun S W h => Keep.putObj _ _ _ h
      refine ⟨by simp, .inl ⟨_, _, rfl, run_takeDeferred hKd, ?_⟩⟩
      refine ⟨_, results_bool rfl _ _ w.heap.size _ rfl ((kp (fun b => b = w.heap.size) _ (by omega)).boxed (hE1.set _) rfl).cell, ?_, ?_⟩
      · rw [HA.out, hE3, Bool.and_true]
        congr 2
        rw [Bool.eq_iff_iff, decide_eq_true_iff, beq_iff_eq]; omega
      · have h5 := hE4.setCell (p := ⟨w.heap.size, 0, none⟩) (Nat.le_refl _) (.bool ((xs.length : Int) == 4))
        exact h5.trans ((kp (fun b => b < w.heap.size) _ (by omega)).below h5.size)
    case stop =>
      rintro D cc pre rest Pv Wd hD hPD hPl hxs ⟨rfl, hge, hK1, hE1, hE3, hE4⟩ hK
      have kp : ∀ (S : Nat → Prop) (W : World), ¬ S D → Keep S W (W.putObj D (.deferred none)) := fun S W h => Keep.putObj _ _ _ h
      clear hxs
      gi_wp2
      refine ⟨by simp, .inl ⟨_, _, rfl, run_takeDeferred hK, ?_⟩⟩
      refine ⟨_, results_bool rfl _ _ w.heap.size _ rfl ((kp (fun b => b = w.heap.size) _ (by omega)).boxed hE1 rfl).cell, ?_, ?_⟩
      · rw [HA.out, hE3, Bool.and_false]
      · exact hE4.trans ((kp (fun b => b < w.heap.size) _ (by omega)).below hE4.size)
end Go.Proofs.YtniehbjoogaccaaGreatDoor.Host
namespace Go.Proofs.YtniehbjoogaccaaGreatDoor.Host
open Go.RowKit Go.Shelf
attribute [local go_sem] Oper.semAt_some
def lastX (xs : List (Nat × List UInt8)) : List UInt8 := (xs.getLast?.map Prod.snd).getD []
theorem lastX_snoc (pre : List (Nat × List UInt8)) (x : Nat × List UInt8) : lastX (pre ++ [x]) = x.2 := by simp [lastX]
theorem lastX_mem (xs : List (Nat × List UInt8)) (h : xs ≠ []) : ∃ x ∈ xs, lastX xs = x.2 := by
  refine ⟨xs.getLast h, List.getLast_mem h, ?_⟩
  unfold lastX
  rw [List.getLast?_eq_some_getLast h]; rfl
theorem hostX (l : List UInt8) : hostB (Ref.splitL 46 l) = (decide ((splitX 46 l).length ≤ 8) && ((splitX 46 l).all fun x => partB x.2) && (!Ref.decB ((lastX (splitX 46 l)).getD 0 0) || addrB (Ref.splitL 46 l))) := by
  have e1 : (Ref.splitL 46 l).getLastD [] = lastX (splitX 46 l) := by
    rw [← splitX_snd, List.getLastD_eq_getLast?, List.getLast?_map]; rfl
  have e2 : (Ref.splitL 46 l).all partB = (splitX 46 l).all fun x => partB x.2 := by rw [← splitX_snd, List.all_map]; rfl
  unfold hostB
  rw [e1, e2, ← splitX_length]
def HsI (w W1 : World) (pre : List (Nat × List UInt8)) (Pv : Nat → Prop) (W : World) : Prop :=
  ∃ q c, Boxed W w.heap.size 4 (.bool false) ∧ Boxed W (w.heap.size + 1) 29 (.slice q (lastX pre).length c) ∧ Boxed W (w.heap.size + 2) 3 (.int .i64 pre.length) ∧
    W.ownsRow 0 5 1 (.slice q (lastX pre).length c) (lastX pre).length ((Lib.numsL (lastX pre)).map (Value.int .u8)) ∧ (∀ b, (Value.slice q (lastX pre).length c).ownBlock = some b → W1.heap.size ≤ b ∧ ¬ Pv b) ∧
    (∀ b, Pv b → W1.heap.size ≤ b) ∧ Keep (fun _ => False) W1 W ∧ (pre.all fun x => partB x.2) = true ∧ pre.length ≤ 8 ∧ Below w.heap.size w W
theorem HsI_abide {w W1 : World} (h : w.heap.size + 3 ≤ W1.heap.size) : Abide (HsI w W1) := by
  rintro pre Pv Pv' A B ⟨q, c, h1, h2, h3, h4, h5, h6, h7, h8, h9, h10⟩ hk hp
  have kk : ∀ b, b < W1.heap.size → ¬ Pv b := fun b hb hn => by have := h6 b hn; omega
  have hs := h7.size
  refine ⟨q, c, hk.boxed h1 (kk _ (by omega)), hk.boxed h2 (kk _ (by omega)), hk.boxed h3 (kk _ (by omega)), hk.row h4 (fun b hb => (h5 b hb).2), fun b hb => ⟨(h5 b hb).1, fun hp' => ?_⟩, fun b hb => ?_, h7.trans (hk.mono fun _ _ h => h.elim), h8, h9, h10.trans ((hk.mono fun b _ hb => kk b (by omega)).below h10.size)⟩
  · rcases (hp b hp').1 with h' | h'
    · exact (h5 b hb).2 h'
    · have := (h4.lt b hb).2; omega
  · rcases (hp b hb).1 with h' | h'
    · exact h6 b h'
    · omega
def HsE (w : World) (r : Bool) (_ : List (Nat × List UInt8)) (W : World) : Prop := Boxed W w.heap.size 4 (.bool false) ∧ r = false ∧ Below w.heap.size w W
set_option maxRecDepth 100000 in
set_option maxHeartbeats 8000000 in
theorem isHost_any (q : Option Addr) (n c : Nat) (l : List UInt8) (w : World) (hl : l.length = n) (hn : n ≤ 253) (h : Lib.BytesIn w q n (Lib.numsL l)) :
    Calls Tryz.prog 132 #[.slice q n c] w fun e w' => e = .returned (.bool (hostB (Ref.splitL 46 l))) ∧ Below w.heap.size w w' := by
  refine (callsIn_wide (n := 1)).1 ?_
  refine callsIn_of_wp_marks Tryz.func132 rfl trivial ?_ rfl
  simp only [Tryz.ntmps132, List.size_toArray, List.length_cons, List.length_nil, Nat.reduceAdd, Nat.reduceSub, Array.replicate_succ, Array.replicate_zero, List.push_toArray, List.append_toArray, List.nil_append, List.cons_append]
  obtain ⟨W0, hW0⟩ : ∃ W0, ((w.alloc (.cells #[.bool false] 4)).alloc (.cells #[.slice none 0 0] 29)).alloc (.cells #[.int .i64 0] 3) = W0 := ⟨_, rfl⟩
  have b0 : Boxed W0 w.heap.size 4 (.bool false) := hW0 ▸ ((Boxed.new w _ _).alloc _).alloc _
  have b1 : Boxed W0 (w.heap.size + 1) 29 (.slice none 0 0) := by
    have := (Boxed.new (w.alloc (.cells #[.bool false] 4)) 29 (.slice none 0 0)).alloc (.cells #[.int .i64 0] 3)
    rw [World.size_alloc] at this
    exact hW0 ▸ this
  have b2 : Boxed W0 (w.heap.size + 2) 3 (.int .i64 0) := by
    have := Boxed.new ((w.alloc (.cells #[.bool false] 4)).alloc (.cells #[.slice none 0 0] 29)) 3 (.int .i64 0)
    rw [World.size_alloc, World.size_alloc] at this
    exact hW0 ▸ this
  have hB0 : Below w.heap.size w W0 := hW0 ▸ (((Below.refl _ w).alloc (Nat.le_refl _) _).alloc (by simp) _).alloc (by simp only [World.size_alloc]; omega) _
  have hs0 : W0.heap.size = w.heap.size + 3 := by rw [← hW0]; simp
  have hql := bytes_lt h
  have hb0 := bytes_keep h (Keep.of_below hB0) (fun a h1 h2 => bytes_lt h a h1 h2)
  have con := Split_any q n c 46 l W0 hl (by omega) hb0
  have hsmall := splitX_small 46 l n hl
  have hlenX := splitX_len 46 l
  have hneX : 0 < (splitX 46 l).length := by rw [splitX_length]; exact List.length_pos_iff.2 (Ref.split_ne 46 l)
  rw [hl] at hlenX
  have HW0 := Lib.hid hW0
  have HX := Lib.hid (hostX l)
  have HA := Lib.hid (address_of l (by omega))
  have conA := fun W hb => Address_any q n c l W hl (by omega) hb
  clear hW0 hb0 hl
  generalize addrB (Ref.splitL 46 l) = ab at *
  generalize hostB (Ref.splitL 46 l) = hb at *
  generalize addressB l = ad at *
  gi_wp2_with fail
  rw [HW0.out]
  refine ⟨trivial, (callsIn_wide.2 con).mono ?_⟩
  rintro e W1 ⟨B, v', rfl, hB, hBc, hrow, hBl, hbel⟩
  have hit := Split_iter (by omega) hB hBc hrow
  have hRl0 : ∀ b, (b = B ∨ b = W0.heap.size ∨ v'.ownBlock = some b) → w.heap.size + 3 ≤ b ∧ b < W1.heap.size := fun b hb => by
    rcases hb with rfl | rfl | hb
    · exact ⟨by omega, hB.lt⟩
    · exact ⟨by omega, hBc.lt⟩
    · have := hrow.lt b hb; exact ⟨by omega, this.2⟩
  obtain ⟨RB, hRB⟩ : ∃ RB : Nat → Prop, RB = fun b => b = B ∨ b = W0.heap.size ∨ v'.ownBlock = some b := ⟨_, rfl⟩
  rw [← hRB, hs0] at hit
  have hRl : ∀ b, RB b → w.heap.size + 3 ≤ b ∧ b < W1.heap.size := fun b hb => hRl0 b (by rw [hRB] at hb; exact hb)
  clear hRB hRl0
  replace b0 := (Keep.of_below hbel).boxed b0 (by omega)
  replace b1 := (Keep.of_below hbel).boxed b1 (by omega)
  replace b2 := (Keep.of_below hbel).boxed b2 (by omega)
  have hB1 := hB0.trans (hbel.mono hB0.size)
  have hs1 := hbel.size
  clear con hB hBc hrow hBl hbel HW0 hB0
  generalize splitX 46 l = xs at *
  gi_wp2
  rw [hs0] at hs1
  clear hs0
  refine rf_law (gf := 146) (lb := #[.pointer (some ⟨B, 0, none⟩), .pointer (some ⟨w.heap.size + 3, 0, none⟩)]) rfl (enters_of Tryz.func146 (by kernel_rfl) rfl)
    hit (Keep.refl _ _) (fun b hb => (hRl b hb).2) (fun x args G W h => by obtain ⟨v, rfl, _⟩ := h; rfl)
    (HsI w W1) (EvX W1 (HsE w hb)) (HsI_abide hs1) (EvX_abide ?e2)
    ⟨none, 0, b0, b1, b2, World.ownsRow_nil _ _ _ _, (fun _ h => by cases h), (fun _ h => h.elim), Keep.refl _ _, rfl, Nat.zero_le _, hB1⟩ ?round ?done ?stop
  case e2 =>
    rintro pre A B hk ⟨h1, h3, h4⟩
    exact ⟨hk.boxed h1 (by omega), h3, h4.trans ((hk.mono fun b _ hb => by omega).below h4.size)⟩
  case round =>
    rintro ll pre ⟨xi, x⟩ rest Pv G args Wr hll hxs ⟨q1, c1, hE1, hE2, hE3, hE4, hE5, hge, hK1, hE6, hE7, hE8⟩ hPl hGl hPb hGP ⟨p, rfl, hp, rfl⟩
    have hxm : (xi, x) ∈ xs := by rw [hxs]; simp
    have hxl := hsmall _ hxm
    simp only at hxl hp
    obtain ⟨qx, cx, rfl, _, hnc, hcm, hbs, hblk⟩ := row_open hp
    have hlen : pre.length + rest.length + 1 = xs.length := by rw [hxs]; simp; omega
    clear hxs
    gi_wp2
    refine ⟨Keep.refl _ _, fun W2 hk2 hs2 r hr => ?_⟩
    have k2 : Keep (fun b => b < W1.heap.size) Wr W2 := hk2.mono fun b _ hb h => by omega
    have f1 := k2.boxed hE1 (by omega)
    have f2 := k2.boxed hE2 (by omega)
    have f3 := k2.boxed hE3 (by omega)
    have gx : Keep (fun b => (Value.slice qx x.length cx).ownBlock = some b) Wr W2 := hk2.mono fun b _ hb h => hGl (h ▸ hb)
    have hbs2 : Lib.BytesIn W2 qx x.length (Lib.numsL x) := bytes_keep hbs gx (fun a ha _ => (hblk a ha).2.2)
    have hp2 := gx.row hp (fun _ h => h)
    have con2 := isPart_any qx x.length cx x W2 rfl (by omega) hbs2
    have k1 := f1.cell
    have k2' := f2.cell
    have k3 := f3.cell
    have z1 := f1.frozen
    have z2 := f2.frozen
    have z3 := f3.frozen
    have hW2 := hE8.trans ((k2.mono fun b _ h => by omega).below hE8.size)
    have hs2' := hE8.size
    have hK2 := hK1.trans (hk2.mono fun _ _ h => h.elim)
    have hGge : ∀ b, (Value.slice qx x.length cx).ownBlock = some b → W1.heap.size ≤ b := fun b h => hge b (hGP b h)
    have keep0 : Keep (fun b => RB b ∨ (Pv b ∧ ¬ (Value.slice qx x.length cx).ownBlock = some b)) W2 (W2.setCell ⟨w.heap.size, 0, none⟩ (.bool false)) := Keep.setCell _ _ _ fun h => by
      rcases h with h | h
      · have := (hRl _ h).1; simp only at this; omega
      · have := hge _ h.1; simp only at this; omega
    clear hbs hp hbs2 hblk hk2 gx hE4 hE5
    by_cases h8 : pre.length = 8
    · have HB := Lib.hid (show hb = false by rw [HX.out, decide_eq_false (by omega)]; rfl)
      have e8 : ((pre.length : Int) == 8) = true := by rw [beq_iff_eq]; omega
      clear con2 hxm h8
      gi_wp2_with fail
      refine ⟨trivial, ?_⟩
      gi_wp2
      exact ⟨keep0, rfl, fun b hb => hge b hb.1, hK2.trans (Keep.setCell _ _ _ (fun h => h)), f1.set _, HB.out, hW2.setCell (p := ⟨w.heap.size, 0, none⟩) (Nat.le_refl _) _⟩
    · have e8 : ((pre.length : Int) == 8) = false := by rw [beq_eq_false_iff_ne]; omega
      cases hpb : partB x with
      | false =>
        have HB := Lib.hid (show hb = false by
          have h1 : (xs.all fun x => partB x.2) = false := by rw [List.all_eq_false]; exact ⟨_, hxm, by rw [hpb]; simp⟩
          rw [HX.out, h1]; simp)
        rw [hpb] at con2
        clear hpb hxm h8
        gi_wp2_with fail
        refine ⟨trivial, rfl, (CallsIn.inRound ll (callsIn_wide.2 con2)).mono ?_⟩
        rintro e w' ⟨rfl, rfl⟩
        clear con2
        gi_wp2
        exact ⟨keep0, rfl, fun b hb => hge b hb.1, hK2.trans (Keep.setCell _ _ _ (fun h => h)), f1.set _, HB.out, hW2.setCell (p := ⟨w.heap.size, 0, none⟩) (Nat.le_refl _) _⟩
      | true =>
        have HB := Lib.hid (show ((pre ++ [(xi, x)]).all fun x => partB x.2) = true by rw [List.all_append, hE6]; simp [hpb])
        have HPL := Lib.hid (show ((pre ++ [(xi, x)]).length : Int) = (pre.length : Int) + 1 by simp)
        have HP8 := Lib.hid (show (pre ++ [(xi, x)]).length ≤ 8 by simp; omega)
        have HLX := Lib.hid (lastX_snoc pre (xi, x))
        rw [hpb] at con2
        clear hpb hxm h8 keep0 HX
        gi_wp2_with fail
        refine ⟨trivial, rfl, (CallsIn.inRound ll (callsIn_wide.2 con2)).mono ?_⟩
        rintro e w' ⟨rfl, rfl⟩
        clear con2
        gi_wp2
        have kst : ∀ S : Nat → Prop, ¬ S (w.heap.size + 1) → ¬ S (w.heap.size + 2) → Keep S W2 ((W2.setCell ⟨w.heap.size + 1, 0, none⟩ (.slice qx x.length cx)).setCell ⟨w.heap.size + 1 + 1, 0, none⟩ (.int .i64 ((pre.length : Int) + 1))) := fun S h h' => (Keep.setCell _ _ _ h).trans (Keep.setCell _ _ _ h')
        have g1 := (kst (fun b => b = w.heap.size) (by omega) (by omega)).boxed f1 rfl
        have g2 := (Keep.setCell (S := fun b => b = w.heap.size + 1) (W2.setCell ⟨w.heap.size + 1, 0, none⟩ (.slice qx x.length cx)) ⟨w.heap.size + 1 + 1, 0, none⟩ (.int .i64 ((pre.length : Int) + 1)) (show ¬ w.heap.size + 1 + 1 = w.heap.size + 1 by omega)).boxed (f2.set (.slice qx x.length cx)) rfl
        have g3 := ((Keep.setCell (S := fun b => b = w.heap.size + 2) W2 ⟨w.heap.size + 1, 0, none⟩ (.slice qx x.length cx) (show ¬ w.heap.size + 1 = w.heap.size + 2 by omega)).boxed f3 rfl).set (.int .i64 ((pre.length : Int) + 1))
        have g4 := (kst (fun b => (Value.slice qx x.length cx).ownBlock = some b) (fun h => by have := hGge _ h; omega) (fun h => by have := hGge _ h; omega)).row hp2 (fun _ h => h)
        have g5 := (hW2.setCell (p := ⟨w.heap.size + 1, 0, none⟩) (Nat.le_succ _) (.slice qx x.length cx)).setCell (p := ⟨w.heap.size + 1 + 1, 0, none⟩) (show w.heap.size ≤ w.heap.size + 1 + 1 by omega) (.int .i64 ((pre.length : Int) + 1))
        have g6 := hK2.trans (kst (fun _ => False) (fun h => h) (fun h => h))
        refine ⟨kst _ (fun h => ?_) (fun h => ?_), ?_⟩
        · rcases h with h | h
          · have := (hRl _ h).1; omega
          · have := hge _ h.1; omega
        · rcases h with h | h
          · have := (hRl _ h).1; omega
          · have := hge _ h.1; omega
        · unfold HsI
          rw [HLX.out, HPL.out]
          exact ⟨qx, cx, g1, g2, g3, g4, fun b h => ⟨hGge b h, fun h' => h'.2 h⟩, fun b h => hge b h.1, g6, HB.out, HP8.out, g5⟩
  case done =>
    rintro D Pv Wd hD hPD hPl ⟨q1, c1, hE1, hE2, hE3, hE4, hE5, hge, hK1, hE6, hE7, hE8⟩ hK
    obtain ⟨y, hym, hyl⟩ := lastX_mem xs (List.length_pos_iff.1 hneX)
    have hpy := List.all_eq_true.1 hE6 y hym
    rw [← hyl] at hpy
    have hx8 := decide_eq_true hE7
    have HXX := Lib.hid (show hb = (!Ref.decB ((lastX xs).getD 0 0) || ab) by rw [HX.out, hx8, hE6]; simp)
    obtain ⟨_, _, hcl, _, hnc, hcm, hbs, hblk⟩ := row_open hE4
    cases hcl
    have hz : 0 < (lastX xs).length := by
      rcases Nat.eq_zero_or_pos (lastX xs).length with h0 | h0
      · rw [part_parts, List.eq_nil_of_length_eq_zero h0] at hpy; cases hpy
      · exact h0
    obtain ⟨bl, ol, rfl, hcl⟩ := hbs.at hz
    have ck0 : Wd.cell? ⟨bl, ol, none⟩ = some (.int .u8 (((lastX xs).getD 0 0).toNat : Int)) := by rw [← numsL_getD _ 0 hz]; exact hcl 0 hz
    have k2 := hE2.cell
    have k1 := hE1.cell
    have z1 := hE1.frozen
    have kp : ∀ (S : Nat → Prop) (W : World), ¬ S D → Keep S W (W.putObj D (.deferred none)) := fun S W h => Keep.putObj _ _ _ h
    have conB := conA Wd (bytes_keep h (Keep.of_below hE8) (fun a h1 h2 => hql a h1 h2))
    rw [HA.out] at conB
    have hszd := hE8.size
    have hDl := hPl D hPD
    generalize (lastX xs).getD 0 0 = y0 at *
    have con5 := isDigit_any y0 Wd
    have hy0 := Ref.u8_lt y0
    clear hE4 hE5 hym hyl hpy hcl hbs hblk hE2 hE3 HX hx8 hE6 hE7 conA h hsmall
    cases hd : Ref.decB y0 with
    | false =>
      have HB := Lib.hid (show hb = true by rw [HXX.out, hd]; rfl)
      rw [hd] at con5
      clear hd HXX conB
      gi_wp2_with fail
      refine ⟨trivial, (callsIn_wide.2 con5).mono ?_⟩
      rintro e w' ⟨rfl, rfl⟩
      clear con5
      gi_wp2_with fail
      refine ⟨trivial, ?_⟩
      gi_wp2
      have hKd : (Wd.setCell ⟨w.heap.size, 0, none⟩ (.bool true)).heap[D]? = some (.deferred (some [])) := (Keep.setCell (S := fun b => b = D) Wd ⟨w.heap.size, 0, none⟩ _ (show ¬ w.heap.size = D by omega)).heap rfl hK
      refine ⟨by simp, .inl ⟨_, _, rfl, run_takeDeferred hKd, ?_⟩⟩
      refine ⟨_, results_bool rfl _ _ w.heap.size _ rfl ((kp (fun b => b = w.heap.size) _ (by omega)).boxed (hE1.set _) rfl).cell, ?_, ?_⟩
      · rw [HB.out]
      · have h5 := hE8.setCell (p := ⟨w.heap.size, 0, none⟩) (Nat.le_refl _) (.bool true)
        exact h5.trans ((kp (fun b => b < w.heap.size) _ (by omega)).below h5.size)
    | true =>
      have HB := Lib.hid (show hb = ab by rw [HXX.out, hd]; rfl)
      rw [hd] at con5
      clear hd HXX
      gi_wp2_with fail
      refine ⟨trivial, (callsIn_wide.2 con5).mono ?_⟩
      rintro e w' ⟨rfl, rfl⟩
      clear con5
      gi_wp2_with fail
      refine ⟨trivial, (callsIn_wide.2 conB).mono ?_⟩
      rintro e w4 ⟨rfl, hb4⟩
      clear conB
      have e1 := (Keep.of_below hb4).boxed hE1 hE1.lt
      have k14 := e1.cell
      have z14 := e1.frozen
      have hK4 : w4.heap[D]? = some (.deferred (some [])) := (hb4.block D hDl).trans hK
      have hE4 := hE8.trans (hb4.mono hszd)
      gi_wp2
      have hKd : (w4.setCell ⟨w.heap.size, 0, none⟩ (.bool ab)).heap[D]? = some (.deferred (some [])) := (Keep.setCell (S := fun b => b = D) w4 ⟨w.heap.size, 0, none⟩ _ (show ¬ w.heap.size = D by omega)).heap rfl hK4
      refine ⟨by simp, .inl ⟨_, _, rfl, run_takeDeferred hKd, ?_⟩⟩
      refine ⟨_, results_bool rfl _ _ w.heap.size _ rfl ((kp (fun b => b = w.heap.size) _ (by omega)).boxed (e1.set _) rfl).cell, ?_, ?_⟩
      · rw [HB.out]
      · have h5 := hE4.setCell (p := ⟨w.heap.size, 0, none⟩) (Nat.le_refl _) (.bool ab)
        exact h5.trans ((kp (fun b => b < w.heap.size) _ (by omega)).below h5.size)
  case stop =>
    rintro D cc pre rest Pv Wd hD hPD hPl hxs ⟨rfl, hge, hK1, hE1, hE3, hE4⟩ hK
    have kp : ∀ (S : Nat → Prop) (W : World), ¬ S D → Keep S W (W.putObj D (.deferred none)) := fun S W h => Keep.putObj _ _ _ h
    clear hxs
    gi_wp2
    refine ⟨by simp, .inl ⟨_, _, rfl, run_takeDeferred hK, ?_⟩⟩
    refine ⟨_, results_bool rfl _ _ w.heap.size _ rfl ((kp (fun b => b = w.heap.size) _ (by omega)).boxed hE1 rfl).cell, ?_, ?_⟩
    · rw [hE3]
    · exact hE4.trans ((kp (fun b => b < w.heap.size) _ (by omega)).below hE4.size)
end Go.Proofs.YtniehbjoogaccaaGreatDoor.Host
namespace Go.Proofs.YtniehbjoogaccaaGreatDoor.Url
open Go.RowKit Go.Shelf
attribute [local go_sem] Oper.semAt_some
def By (w : World) (v : Value) (l : List UInt8) : Prop :=
  ∃ q c, v = .slice q l.length c ∧ l.length ≤ c ∧ c ≤ maxLen ∧ (q = none → c = 0) ∧ Lib.BytesIn w q l.length (Lib.numsL l)
theorem by_nil (w : World) : By w (.slice none 0 0) [] := ⟨none, 0, rfl, Nat.le_refl _, Nat.zero_le _, fun _ => rfl, Lib.BytesIn.nil _ _ _⟩
theorem bytes_on {w w' : World} {q : Option Addr} {n : Nat} {xs : List Int} (h : Lib.BytesIn w q n xs) (hk : Below w.heap.size w w') : Lib.BytesIn w' q n xs := bytes_keep h (Keep.of_below hk) (bytes_lt h)
theorem By.on {w w' : World} {v : Value} {l : List UInt8} (h : By w v l) (hk : Below w.heap.size w w') : By w' v l := by
  obtain ⟨q, c, h1, h2, h3, h4, h5⟩ := h
  exact ⟨q, c, h1, h2, h3, h4, bytes_on h5 hk⟩
theorem By.row {w : World} {base n : Nat} {v : Value} {l : List UInt8} (h : w.ownsRow base 5 1 v n ((Lib.numsL l).map (Value.int .u8))) : By w v l := by
  obtain ⟨q, c, rfl, rfl, h2, h3, h4, h5⟩ := row_open h
  refine ⟨q, c, rfl, h2, h3, fun hq => ?_, h4⟩
  subst hq
  rcases h.2 with ⟨hv, _⟩ | ⟨g, cap, cur, hv, _⟩
  · injection hv
  · cases hv
theorem below_drewN (w : World) (m : Nat) : Below w.heap.size w (w.drewN m) := ⟨rfl, rfl, rfl, Nat.le_refl _, fun _ _ => rfl⟩
theorem By.at {w : World} {q : Option Addr} {n c : Nat} {l : List UInt8} (h : By w (.slice q n c) l) : l.length = n ∧ n ≤ c ∧ c ≤ maxLen ∧ (q = none → n = 0 ∧ c = 0) ∧ Lib.BytesIn w q n (Lib.numsL l) := by
  obtain ⟨q', c', he, h2, h3, h4, h5⟩ := h
  cases he
  exact ⟨rfl, h2, h3, fun hq => by have := h4 hq; omega, h5⟩
theorem By.of {w : World} {q : Option Addr} {n c : Nat} {l : List UInt8} (h1 : l.length = n) (h2 : n ≤ c) (h3 : c ≤ maxLen) (h4 : q = none → c = 0) (h5 : Lib.BytesIn w q n (Lib.numsL l)) : By w (.slice q n c) l := by
  subst h1; exact ⟨q, c, rfl, h2, h3, h4, h5⟩
theorem run_slice_at (q : Option Addr) (n c i : Nat) (W : World) (hi : i ≤ n) :
    (Instr.slice 29 (.slice q n c) (some (.int .i64 (i : Int))) none none).run Tryz.prog W = .ok (.slice (subA q c i) (n - i) (c - i)) W := by
  have hs : ∀ w, (Go.sizeOf 5).run Tryz.prog w = .ok 1 w := Tryz.sizeOf5
  have he : Tryz.prog.elem 29 = 5 := by kernel_rfl
  have h := run_slice_l (P := Tryz.prog) (w := W) 29 q n c (by rw [he]; exact Tryz.underlying29) .i64 (i : Int) (by omega) (by omega)
  rw [h, he, hs]
  simp only [Result.andThen, sliced, subA, Nat.mul_one, Int.toNat_natCast]
theorem subA_none {q : Option Addr} {c l : Nat} (h : subA q c l = none) : q = none := by
  unfold subA at h
  split at h
  · exact h
  · cases q with
    | none => rfl
    | some a => simp at h
theorem By.sub {w : World} {q : Option Addr} {n c i j : Nat} {l : List UInt8} (h : By w (.slice q n c) l) (hij : i ≤ j) (hj : j ≤ n) : By w (.slice (subA q c i) (j - i) (c - i)) (sub l i j) := by
  obtain ⟨h1, h2, h3, h4, h5⟩ := h.at
  exact By.of (sub_length l i j (by omega)) (by omega) (by omega) (fun hq => by have := h4 (subA_none hq); omega) (bytes_sub h5 h1 hij hj h2)
set_option maxRecDepth 100000 in
set_option maxHeartbeats 8000000 in
theorem atSlash_any (q : Option Addr) (n c : Nat) (l : List UInt8) (w : World) (h : By w (.slice q n c) l) :
    Calls Tryz.prog 86 #[.slice q n c] w fun e w' => ∃ v1 v2, e = .returned (.tuple #[v1, v2]) ∧ By w v1 (aheadL 47 l) ∧ By w v2 (l.drop (aheadL 47 l).length) ∧ Below w.heap.size w w' ∧ w'.heap = w.heap := by
  obtain ⟨hl, hnc, hcm, hnil, hb⟩ := h.at
  have hix := IndexByte_any q n c l 47 w hl hnil hb
  have hge := Lib.indexByte_ge l 47
  have hlt := index_lt l 47
  have ha := (at_ahead 47 l).1
  by_cases h0 : 0 ≤ Lib.indexByte l 47
  · obtain ⟨k, hk⟩ : ∃ k : Nat, Lib.indexByte l 47 = (k : Int) := ⟨(Lib.indexByte l 47).toNat, by omega⟩
    obtain ⟨e1, _, _⟩ := at_found 47 l k hk
    rw [hk] at hix hlt
    have hkn : k < n := by omega
    have hlk : (l.take k).length = k := by rw [List.length_take]; omega
    have hb1 := h.sub (Nat.zero_le k) (by omega)
    have hb2 := h.sub (show k ≤ n from by omega) (Nat.le_refl n)
    rw [← ha, e1, hlk]
    rw [sub_to, Nat.sub_zero, Nat.sub_zero] at hb1
    rw [← hl, sub_from, hl] at hb2
    have hr1 : ∀ W, (Instr.slice 29 (.slice q n c) none (some (.int .i64 (k : Int))) none).run Tryz.prog W = .ok (.slice (subA q c 0) k c) W := fun W => run_slice_to q n c k W (by omega)
    have hr2 : ∀ W, (Instr.slice 29 (.slice q n c) (some (.int .i64 (k : Int))) none none).run Tryz.prog W = .ok (.slice (subA q c k) (n - k) (c - k)) W := fun W => run_slice_at q n c k W (by omega)
    clear e1 h0 hge hk h hlk ha hb hnil hl
    generalize l.take k = l1 at *
    generalize l.drop k = l2 at *
    generalize hqa : subA q c 0 = qa at *
    generalize hqb : subA q c k = qb at *
    clear hqa hqb
    go_enter Tryz.func86, Tryz.ntmps86
    go_wp2_with fail
    refine hix.mono ?_
    rintro e w' ⟨rfl, hw⟩
    subst hw
    go_wp2
    go_quiet (fail)
    go_wp2
    go_ret2
    exact ⟨_, _, rfl, hb1, hb2, below_drewN _ _, rfl⟩
  · have h1 : Lib.indexByte l 47 = -1 := by omega
    obtain ⟨e1, _, _⟩ := at_none 47 l h1
    rw [h1] at hix
    rw [← ha, e1, List.drop_length]
    clear e1 h0 hge h1 ha hb hnil hl
    go_enter Tryz.func86, Tryz.ntmps86
    go_wp2_with fail
    refine hix.mono ?_
    rintro e w' ⟨rfl, hw⟩
    subst hw
    go_wp2
    go_ret2
    exact ⟨_, _, rfl, h, by_nil _, Below.refl _ _, rfl⟩
end Go.Proofs.YtniehbjoogaccaaGreatDoor.Url
namespace Go.Proofs.YtniehbjoogaccaaGreatDoor.Ck
open Url Hdr
set_option linter.unusedVariables false
theorem split_head (c : UInt8) : ∀ l : List UInt8, Ref.splitL c l = aheadL c l :: (match Host.tailL c l with | none => [] | some r => Ref.splitL c r)
  | [] => rfl
  | b :: r => by
    by_cases hb : b = c
    · subst hb
      rw [Ref.split_is]
      simp [aheadL, Host.tailL]
    · rw [Ref.split_not c b r hb, split_head c r]
      simp [aheadL, Host.tailL, hb, Ref.onto]
theorem attr_nil (c : Ck) : attr c [] = some c := by
  have k : keyL [] = [] := by decide
  unfold attr
  rw [if_neg (by rw [k]; decide), if_neg (by rw [k]; decide), if_neg (by rw [k]; decide), if_neg (by rw [k]; decide)]
theorem txt_at (p : List UInt8) : txtL p = trimB (atSnd 61 p) ∧ aheadL 61 p = atFst 61 p := by
  obtain ⟨h1, h2, h3⟩ := at_ahead 61 p
  refine ⟨?_, h1.symm⟩
  unfold txtL
  rw [h2]
  cases h : atOk 61 p with
  | true => rfl
  | false => rw [h3 h]; rfl
theorem cookie_go (t : List UInt8) : cookieL t = match headC (atFst 59 t) with | none => none | some c => attrs c (Ref.splitL 59 (atSnd 59 t)) := by
  obtain ⟨h1, h2, h3⟩ := at_ahead 59 t
  unfold cookieL
  rw [split_head 59 t, h2, h1]
  cases h : atOk 59 t with
  | true => rfl
  | false =>
    rw [h3 h]
    simp only [Bool.false_eq_true, if_false]
    cases headC (aheadL 59 t) with
    | none => rfl
    | some c =>
      show some c = attrs c (Ref.splitL 59 [])
      have : Ref.splitL 59 [] = [[]] := by simp [Ref.splitL]
      rw [this]
      simp only [attrs, attr_nil]
def pathT (c : Ck) : List UInt8 := if c.path = [] then [] else [59, 32, 80, 97, 116, 104, 61] ++ c.path
def domT (c : Ck) : List UInt8 := if c.dom = [] then [] else [59, 32, 68, 111, 109, 97, 105, 110, 61] ++ c.dom
def ageT (c : Ck) : List UInt8 := if c.age < 0 then [] else [59, 32, 77, 97, 120, 45, 65, 103, 101, 61] ++ digL c.age.toNat
def secT (c : Ck) : List UInt8 := if c.secure = true then [59, 32, 83, 101, 99, 117, 114, 101] else []
theorem join_flat (c : UInt8) : ∀ (l : List (List UInt8)) (p : List UInt8), Ref.joinL c (p :: l) = p ++ l.flatMap fun q => c :: q
  | [], p => by simp [Ref.joinL]
  | q :: l, p => by
    show p ++ c :: Ref.joinL c (q :: l) = _
    rw [join_flat c l q, List.flatMap_cons]
    rfl
theorem text_is (c : Ck) : textC c = (c.name ++ [61]) ++ c.value ++ pathT c ++ domT c ++ ageT c ++ secT c := by
  unfold textC
  rw [join_flat, List.flatMap_append, List.flatMap_append, List.flatMap_append]
  have e1 : ((pathP c).flatMap fun q => 59 :: q) = pathT c := by
    unfold pathP pathT
    split <;> simp
  have e2 : ((domP c).flatMap fun q => 59 :: q) = domT c := by
    unfold domP domT
    split <;> simp
  have e3 : ((ageP c).flatMap fun q => 59 :: q) = ageT c := by
    unfold ageP ageT
    split <;> simp
  have e4 : ((secP c).flatMap fun q => 59 :: q) = secT c := by
    unfold secP secT
    split <;> simp
  rw [e1, e2, e3, e4]
  simp
theorem drop_all : ∀ l : List UInt8, (∀ b ∈ l, b ≠ 47) → ∀ m : List UInt8, (l ++ m).dropWhile (· != 47) = m.dropWhile (· != 47)
  | [], _, m => rfl
  | b :: l, h, m => by
    have hb := h b (by simp)
    rw [List.cons_append, List.dropWhile_cons, if_pos (by simpa using hb)]
    exact drop_all l (fun x hx => h x (by simp [hx])) m
theorem last_at (l : List UInt8) (k : Nat) (hk : k < l.length) (h1 : l.getD k 0 = 47) (h2 : ∀ j, k < j → j < l.length → l.getD j 0 ≠ 47) : lastS l = l.take (k + 1) := by
  have hs : l.reverse = (l.drop (k + 1)).reverse ++ (l.take (k + 1)).reverse := by rw [← List.reverse_append, List.take_append_drop]
  have hd : ∀ b ∈ (l.drop (k + 1)).reverse, b ≠ 47 := fun b hb => by
    rw [List.mem_reverse] at hb
    obtain ⟨i, hi, rfl⟩ := List.getElem_of_mem hb
    rw [List.length_drop] at hi
    have := h2 (k + 1 + i) (by omega) (by omega)
    rw [List.getD, List.getElem?_eq_getElem (by omega)] at this
    simpa using this
  have ht : (l.take (k + 1)).reverse = 47 :: (l.take k).reverse := by
    rw [List.take_succ_eq_append_getElem hk, List.reverse_append]
    rw [List.getD, List.getElem?_eq_getElem hk] at h1
    simpa using h1
  unfold lastS
  rw [hs, drop_all _ hd, ht, List.dropWhile_cons, if_neg (by decide), ← ht, List.reverse_reverse]
theorem last_none (l : List UInt8) (h : ∀ j, j < l.length → l.getD j 0 ≠ 47) : lastS l = [] := by
  have hd : ∀ b ∈ l.reverse, b ≠ 47 := fun b hb => by
    rw [List.mem_reverse] at hb
    obtain ⟨i, hi, rfl⟩ := List.getElem_of_mem hb
    have := h i hi
    rw [List.getD, List.getElem?_eq_getElem hi] at this
    simpa using this
  have := drop_all l.reverse hd []
  unfold lastS
  rw [List.append_nil] at this
  rw [this]
  rfl
theorem home_at (c : Ck) (l : List UInt8) (k : Nat) (h0 : c.path = []) (hk : k < l.length) (h1 : l.getD k 0 = 47) (h2 : ∀ j, k < j → j < l.length → l.getD j 0 ≠ 47) : homeL c l = l.take (max k 1) := by
  unfold homeL
  rw [if_pos h0, last_at l k hk h1 h2, List.length_take]
  by_cases hk0 : k = 0
  · subst hk0
    rw [if_neg (by omega)]
    rfl
  · rw [if_pos (by omega), show max k 1 = k by omega, List.dropLast_eq_take, List.length_take, List.take_take]
    congr 1
    omega
theorem home_none (c : Ck) (l : List UInt8) (h0 : c.path = []) (h : ∀ j, j < l.length → l.getD j 0 ≠ 47) : homeL c l = [] := by
  unfold homeL
  rw [if_pos h0, last_none l h]
  rfl
theorem home_own (c : Ck) (l : List UInt8) (h0 : c.path ≠ []) : homeL c l = c.path := by
  unfold homeL
  rw [if_neg h0]
def goesB (h p : List UInt8) : Bool := h.isPrefixOf p && (decide ((p.drop h.length).length = 0) || decide ((p.drop h.length).head? = some 47) || decide (h.getLast? = some 47))
theorem goes_here (h p : List UInt8) : goesB h p = hereB h p := by
  unfold goesB hereB
  cases hp : h.isPrefixOf p with
  | false =>
    have h1 : ¬ p = h := fun e => by
      subst e
      have : p.isPrefixOf p = true := List.isPrefixOf_iff_prefix.2 (List.prefix_refl p)
      rw [hp] at this; cases this
    have h2 : (slashL h).isPrefixOf p = false := by
      rw [← Bool.not_eq_true, List.isPrefixOf_iff_prefix]
      intro hs
      have : h <+: p := by
        refine List.IsPrefix.trans ?_ hs
        unfold slashL
        split
        · exact List.prefix_refl h
        · exact List.prefix_append h [47]
      rw [← List.isPrefixOf_iff_prefix, hp] at this
      cases this
    rw [h2]
    simp [h1]
  | true =>
    obtain ⟨r, rfl⟩ := List.isPrefixOf_iff_prefix.1 hp
    rw [List.drop_left, Bool.true_and]
    unfold slashL
    by_cases hl : h.getLast? = some 47
    · rw [if_pos hl, hp]
      simp [hl]
    · rw [if_neg hl]
      have e1 : (decide (h ++ r = h)) = decide (r.length = 0) := by simp
      have e2 : (h ++ [47]).isPrefixOf (h ++ r) = decide (r.head? = some 47) := by
        rw [Bool.eq_iff_iff, List.isPrefixOf_iff_prefix, List.prefix_append_right_inj, decide_eq_true_iff]
        cases r with
        | nil => simp
        | cons x r => simp [List.cons_prefix_cons, eq_comm]
      rw [e1, e2]
      simp [hl]
end Go.Proofs.YtniehbjoogaccaaGreatDoor.Ck
