/- What these laws want besides. Conditions: as each says. -/
import Derived.Test.YtniehbjoogaccaaGreatDoorBaseF
namespace Go.Proofs.YtniehbjoogaccaaGreatDoor
open Go.RowKit
end Go.Proofs.YtniehbjoogaccaaGreatDoor
namespace Go.Proofs.YtniehbjoogaccaaGreatDoor
open Go.RowKit
end Go.Proofs.YtniehbjoogaccaaGreatDoor
namespace Go.Proofs.YtniehbjoogaccaaGreatDoor
open Go.RowKit Go.Shelf
attribute [local go_sem] Oper.semAt_some
end Go.Proofs.YtniehbjoogaccaaGreatDoor
namespace Go.Proofs.YtniehbjoogaccaaGreatDoor.Hdr
open Url
set_option linter.unusedVariables false
theorem tok_no (t : List UInt8) (h : tokL t = true) (b : UInt8) (hb : tokB b = false) : b ∉ t := fun hm => by
  unfold tokL at h
  rw [Bool.and_eq_true, List.all_eq_true] at h
  have := h.2 b hm
  rw [hb] at this; cases this
end Go.Proofs.YtniehbjoogaccaaGreatDoor.Hdr
namespace Go.Proofs.YtniehbjoogaccaaGreatDoor.Ck
open Url Hdr
set_option linter.unusedVariables false
theorem trim_nob (l : List UInt8) (h : ∀ b ∈ l, blankB b = false) : trimB l = l := by
  unfold trimB
  rw [drop_id l (fun x r e => h x (by rw [e]; simp)), drop_id l.reverse (fun x r e => h x (by
    have : x ∈ l.reverse := by rw [e]; simp
    simpa using this)), List.reverse_reverse]
theorem split_app (c : UInt8) : ∀ (p rest : List UInt8), c ∉ p → Ref.splitL c (p ++ c :: rest) = p :: Ref.splitL c rest
  | [], rest, _ => Ref.split_is c rest
  | b :: p, rest, h => by
    have hb : b ≠ c := fun e => h (by rw [e]; simp)
    have ih := split_app c p rest (fun hm => h (by simp [hm]))
    rw [List.cons_append, Ref.split_not c b _ hb, ih]
    rfl
theorem split_one (c : UInt8) : ∀ p : List UInt8, c ∉ p → Ref.splitL c p = [p]
  | [], _ => rfl
  | b :: p, h => by
    have hb : b ≠ c := fun e => h (by rw [e]; simp)
    rw [Ref.split_not c b _ hb, split_one c p (fun hm => h (by simp [hm]))]
    rfl
theorem split_join (c : UInt8) : ∀ (l : List (List UInt8)) (p : List UInt8), c ∉ p → (∀ x ∈ l, c ∉ x) → Ref.splitL c (Ref.joinL c (p :: l)) = p :: l
  | [], p, hp, _ => split_one c p hp
  | q :: l, p, hp, h => by
    show Ref.splitL c (p ++ c :: Ref.joinL c (q :: l)) = _
    rw [split_app c p _ hp, split_join c l q (h q (by simp)) (fun x hx => h x (by simp [hx]))]
theorem val_no (v : List UInt8) (h : v.all valB = true) (d : UInt8) (hd : valB d = false) : d ∉ v := fun hm => by
  rw [List.all_eq_true] at h
  have := h d hm
  rw [hd] at this; cases this
theorem val_trim (v : List UInt8) (h : v.all valB = true) : trimB v = v := trim_nob v (fun b hb => by
  rw [List.all_eq_true] at h
  have h1 := h b hb
  unfold valB at h1
  simp only [Bool.and_eq_true, decide_eq_true_eq] at h1
  unfold blankB
  rw [decide_eq_false_iff_not]
  omega)
theorem tok_trim (v : List UInt8) (h : tokL v = true) : trimB v = v := trim_nob v (fun b hb => by
  have h32 := tok_no v h 32 (by decide)
  have h9 := tok_no v h 9 (by decide)
  unfold blankB
  rw [decide_eq_false_iff_not]
  rintro (e | e)
  · exact h32 (by rwa [show (32 : UInt8) = b from UInt8.toNat_inj.1 (by rw [e]; rfl)])
  · exact h9 (by rwa [show (9 : UInt8) = b from UInt8.toNat_inj.1 (by rw [e]; rfl)]))
theorem dom_trim (v : List UInt8) (h : Host.parseE v = 0) : trimB v = v := trim_nob v (fun b hb => by
  have h32 := host_no v h 32 (by decide) (by decide)
  have h9 := host_no v h 9 (by decide) (by decide)
  unfold blankB
  rw [decide_eq_false_iff_not]
  rintro (e | e)
  · exact h32 (by rwa [show (32 : UInt8) = b from UInt8.toNat_inj.1 (by rw [e]; rfl)])
  · exact h9 (by rwa [show (9 : UInt8) = b from UInt8.toNat_inj.1 (by rw [e]; rfl)]))
theorem dig_trim (n : Nat) : trimB (digL n) = digL n := trim_nob _ (fun b hb => by
  have h := (Ref.decB_of b).1 (dig_dec n b hb)
  unfold blankB
  rw [decide_eq_false_iff_not]
  omega)
theorem dig_no (n : Nat) : (59 : UInt8) ∉ digL n := fun h => by
  have := (Ref.decB_of 59).1 (dig_dec n 59 h)
  exact absurd this (by decide)
theorem dig_is (n : Nat) (h : n ≤ 1073741824) : Ref.numOf 1073741824 (digL n) = some (n : Int) := by
  by_cases h0 : n = 0
  · subst h0
    rw [dig_small 0 (by omega)]
    decide +kernel
  · exact dig_numOf 1073741824 n (by omega) h
theorem attr_path (c : Ck) (x : List UInt8) (h1 : x.head? = some 47) (h2 : trimB x = x) : attr c ([32, 80, 97, 116, 104] ++ 61 :: x) = some { c with path := x } := by
  obtain ⟨e1, e2⟩ := ahead_yes 61 [32, 80, 97, 116, 104] x (by decide)
  have k : keyL ([32, 80, 97, 116, 104] ++ 61 :: x) = pathS := by unfold keyL; rw [e1]; decide +kernel
  have t : txtL ([32, 80, 97, 116, 104] ++ 61 :: x) = x := by unfold txtL; rw [e2]; exact h2
  unfold attr
  rw [if_pos k, t, if_pos h1]
theorem attr_dom (c : Ck) (x : List UInt8) (h1 : Host.parseE x = 0) (h2 : Ref.lowL x = x) : attr c ([32, 68, 111, 109, 97, 105, 110] ++ 61 :: x) = some { c with dom := x } := by
  obtain ⟨e1, e2⟩ := ahead_yes 61 [32, 68, 111, 109, 97, 105, 110] x (by decide)
  have k : keyL ([32, 68, 111, 109, 97, 105, 110] ++ 61 :: x) = domS := by unfold keyL; rw [e1]; decide +kernel
  have t : txtL ([32, 68, 111, 109, 97, 105, 110] ++ 61 :: x) = x := by unfold txtL; rw [e2]; exact dom_trim x h1
  unfold attr
  rw [if_neg (by rw [k]; decide), if_pos k, t, if_pos h1, h2]
theorem attr_age (c : Ck) (n : Nat) (h : n ≤ 1073741824) : attr c ([32, 77, 97, 120, 45, 65, 103, 101] ++ 61 :: digL n) = some { c with age := (n : Int) } := by
  obtain ⟨e1, e2⟩ := ahead_yes 61 [32, 77, 97, 120, 45, 65, 103, 101] (digL n) (by decide)
  have k : keyL ([32, 77, 97, 120, 45, 65, 103, 101] ++ 61 :: digL n) = ageS := by unfold keyL; rw [e1]; decide +kernel
  have t : txtL ([32, 77, 97, 120, 45, 65, 103, 101] ++ 61 :: digL n) = digL n := by unfold txtL; rw [e2]; exact dig_trim n
  unfold attr
  rw [if_neg (by rw [k]; decide), if_neg (by rw [k]; decide), if_pos k, t, dig_is n h]
theorem attr_sec (c : Ck) : attr c [32, 83, 101, 99, 117, 114, 101] = some { c with secure := true } := by
  have k : keyL [32, 83, 101, 99, 117, 114, 101] = secS := by decide +kernel
  unfold attr
  rw [if_neg (by rw [k]; decide), if_neg (by rw [k]; decide), if_neg (by rw [k]; decide), if_pos k]
theorem parse_text (c : Ck) (h : Ok c) (hl : (textC c).length ≤ 4096) : parseC (textC c) = .inr c := by
  obtain ⟨nm, v, pa, dm, ag, se⟩ := c
  obtain ⟨h1, h2, h3, h4, h5, h6⟩ := h
  simp only at h1 h2 h3 h4 h5 h6
  have hpieces : ∀ x ∈ pathP ⟨nm, v, pa, dm, ag, se⟩ ++ (domP ⟨nm, v, pa, dm, ag, se⟩ ++ (ageP ⟨nm, v, pa, dm, ag, se⟩ ++ secP ⟨nm, v, pa, dm, ag, se⟩)), (59 : UInt8) ∉ x := by
    intro x hx
    simp only [List.mem_append] at hx
    rcases hx with hx | hx | hx | hx
    · unfold pathP at hx
      simp only at hx
      split at hx
      · cases hx
      · rename_i hne
        obtain ⟨_, _, h59⟩ := h3.resolve_left hne
        rw [List.mem_singleton.1 hx]
        simp [h59]
    · unfold domP at hx
      simp only at hx
      split at hx
      · cases hx
      · rename_i hne
        have h59 := host_no dm (h4.resolve_left hne).1 59 (by decide) (by decide)
        rw [List.mem_singleton.1 hx]
        simp [h59]
    · unfold ageP at hx
      simp only at hx
      split at hx
      · cases hx
      · rw [List.mem_singleton.1 hx]
        simp [dig_no]
    · unfold secP at hx
      simp only at hx
      split at hx
      · rw [List.mem_singleton.1 hx]; decide
      · cases hx
  have hn61 := tok_no nm h1 61 (by decide)
  have hn59 := tok_no nm h1 59 (by decide)
  have hv59 := val_no v h2 59 (by decide)
  obtain ⟨e1, e2⟩ := ahead_yes 61 nm v hn61
  have hhead : headC (nm ++ 61 :: v) = some ⟨nm, v, [], [], -1, false⟩ := by
    have ha : trimB (aheadL 61 (nm ++ 61 :: v)) = nm := by rw [e1]; exact tok_trim nm h1
    have ht : txtL (nm ++ 61 :: v) = v := by unfold txtL; rw [e2]; exact val_trim v h2
    unfold headC
    rw [ha, ht, if_pos ⟨by simp, h1, h2⟩]
  have s1 : attrs ⟨nm, v, [], [], -1, false⟩ (pathP ⟨nm, v, pa, dm, ag, se⟩) = some ⟨nm, v, pa, [], -1, false⟩ := by
    unfold pathP
    simp only
    split
    · rename_i e; subst e; rfl
    · rename_i hne
      obtain ⟨g1, g2, _⟩ := h3.resolve_left hne
      simp only [attrs, attr_path _ pa g1 g2]
  have s2 : attrs ⟨nm, v, pa, [], -1, false⟩ (domP ⟨nm, v, pa, dm, ag, se⟩) = some ⟨nm, v, pa, dm, -1, false⟩ := by
    unfold domP
    simp only
    split
    · rename_i e; subst e; rfl
    · rename_i hne
      obtain ⟨g1, g2⟩ := h4.resolve_left hne
      simp only [attrs, attr_dom _ dm g1 g2]
  have s3 : attrs ⟨nm, v, pa, dm, -1, false⟩ (ageP ⟨nm, v, pa, dm, ag, se⟩) = some ⟨nm, v, pa, dm, ag, false⟩ := by
    unfold ageP
    simp only
    split
    · rename_i e
      have : ag = -1 := by omega
      subst this; rfl
    · rename_i hne
      simp only [attrs, attr_age _ ag.toNat (by omega)]
      rw [show ((ag.toNat : Nat) : Int) = ag by omega]
  have s4 : attrs ⟨nm, v, pa, dm, ag, false⟩ (secP ⟨nm, v, pa, dm, ag, se⟩) = some ⟨nm, v, pa, dm, ag, se⟩ := by
    unfold secP
    simp only
    split
    · rename_i e; subst e; simp only [attrs, attr_sec]
    · rename_i e
      have : se = false := by simpa using e
      subst this; rfl
  have hck : cookieL (textC ⟨nm, v, pa, dm, ag, se⟩) = some ⟨nm, v, pa, dm, ag, se⟩ := by
    unfold cookieL textC
    rw [split_join 59 _ _ (by simp [hn59, hv59]) hpieces]
    simp only [hhead, attrs_app _ _ _ _ s1, attrs_app _ _ _ _ s2, attrs_app _ _ _ _ s3, s4]
  unfold parseC
  rw [if_neg (by omega), hck]
  simp only
  rw [if_neg (by omega)]
theorem parse_back (t : List UInt8) (c : Ck) (hl : t.length ≤ 1000) (h : parseC t = .inr c) : parseC (textC c) = .inr c :=
  parse_text c (parse_ok t c h) (parse_ck t c h).2.2
theorem last_pre (p : List UInt8) : ∃ q, p = lastS p ++ q := by
  refine ⟨(p.reverse.takeWhile (· != 47)).reverse, ?_⟩
  unfold lastS
  rw [← List.reverse_append, List.takeWhile_append_dropWhile, List.reverse_reverse]
theorem last_end (p : List UInt8) (h : (47 : UInt8) ∈ p) : ∃ r, lastS p = r ++ [47] := by
  unfold lastS
  have hd : ∀ l : List UInt8, (47 : UInt8) ∈ l → ∃ r, l.dropWhile (· != 47) = 47 :: r := by
    intro l
    induction l with
    | nil => intro h; cases h
    | cons x l ih =>
      intro h
      rw [List.dropWhile_cons]
      by_cases hx : x = 47
      · subst hx; exact ⟨l, by simp⟩
      · rw [if_pos (by simpa using hx)]
        exact ih ((List.mem_cons.1 h).resolve_left (fun e => hx e.symm))
  obtain ⟨r, hr⟩ := hd p.reverse (by simpa using h)
  exact ⟨r.reverse, by rw [hr]; simp⟩
theorem meant_self (c : Ck) (host path scheme : List UInt8) (h0 : c.path = []) (hp : path.head? = some 47) (h : mayB c host scheme = true) : meantB c host path host path scheme = true ∧ (homeL c path).head? = some 47 := by
  unfold mayB at h
  rw [Bool.and_eq_true] at h
  have hm : (47 : UInt8) ∈ path := by
    cases path with
    | nil => cases hp
    | cons x r => cases hp; simp
  obtain ⟨q, hq⟩ := last_pre path
  obtain ⟨r, hr⟩ := last_end path hm
  have hhd : (lastS path).head? = some 47 := by
    rw [hq] at hp
    cases hl : lastS path with
    | nil => rw [hr] at hl; simp at hl
    | cons x s => rw [hl] at hp; exact hp
  have hhome : hereB (homeL c path) path = true ∧ (homeL c path).head? = some 47 := by
    unfold homeL
    rw [if_pos h0]
    unfold hereB
    by_cases h1 : 1 < (lastS path).length
    · rw [if_pos h1, hr, List.dropLast_concat]
      have hr0 : r.head? = some 47 := by
        rw [hr] at hhd h1
        cases r with
        | nil => simp at h1
        | cons x s => exact hhd
      refine ⟨?_, hr0⟩
      rw [Bool.or_eq_true]
      right
      rw [List.isPrefixOf_iff_prefix]
      unfold slashL
      split
      · exact ⟨[47] ++ q, by rw [← List.append_assoc, ← hr]; exact hq.symm⟩
      · exact ⟨q, by rw [← hr]; exact hq.symm⟩
    · rw [if_neg h1]
      refine ⟨?_, hhd⟩
      rw [Bool.or_eq_true]
      right
      rw [List.isPrefixOf_iff_prefix]
      have hr1 : r = [] := by
        rw [hr] at h1
        cases r with
        | nil => rfl
        | cons x s => simp at h1
      rw [hr, hr1]
      refine ⟨q, ?_⟩
      have : slashL ([] ++ [47]) = [47] := by decide
      rw [this]
      rw [hr, hr1] at hq
      exact hq.symm
  refine ⟨?_, hhome.2⟩
  unfold meantB
  rw [hhome.1, h.2, decide_eq_true rfl]
  rfl
end Go.Proofs.YtniehbjoogaccaaGreatDoor.Ck
namespace Go.Proofs.YtniehbjoogaccaaGreatDoor.Jar
open Url Hdr Ck
set_option linter.unusedVariables false
theorem len_mem (l : List En) (e : En) : e ∈ byLen l ↔ e ∈ l := by
  unfold byLen
  rw [List.mem_flatMap]
  constructor
  · rintro ⟨n, -, h⟩
    exact (List.mem_filter.1 h).1
  · intro h
    refine ⟨homeE e, ?_, List.mem_filter.2 ⟨h, by simp⟩⟩
    rw [List.mem_reverse, List.mem_range]
    have := home_longest l e h
    omega
theorem for_mem (k : Key) (u : U) (now : Int) (l : List En) (e : En) : e ∈ forJ k u now l ↔ e ∈ l ∧ keyU e.at_ = k ∧ overE now e = false ∧ meantE u e = true := by
  unfold forJ hereJ
  rw [len_mem, List.mem_filter, List.mem_filter]
  constructor
  · rintro ⟨⟨h1, h2⟩, h3⟩
    rw [Bool.and_eq_true, Bool.not_eq_true'] at h3
    exact ⟨h1, of_decide_eq_true h2, h3.1, h3.2⟩
  · rintro ⟨h1, h2, h3, h4⟩
    exact ⟨⟨h1, decide_eq_true h2⟩, by rw [h3, h4]; rfl⟩
theorem set_there (l : List En) (at_ : U) (c : Ck) (now later : Int) (h0 : c.path = []) (hp : at_.path.head? = some 47) (hm : mayB c at_.host at_.scheme = true) (hl : 0 ≤ later)
    (hall : ∀ e ∈ l, e.set ≤ now ∧ (textC e.c = textC c → e.c = c)) (ha : -1 ≤ c.age) :
    (∃ e ∈ forJ (keyU at_) at_ (now + later) (setJ l at_ c now), textC e.c = textC c) ↔ (c.age < 0 ∨ later < c.age) := by
  constructor
  · rintro ⟨e, he, ht⟩
    obtain ⟨h1, -, h3, -⟩ := (for_mem _ _ _ _ _).1 he
    have hx : e.set ≤ now ∧ e.c = c := by
      rcases mem_set l at_ c now e h1 with h | rfl
      · exact ⟨(hall e h).1, (hall e h).2 ht⟩
      · exact ⟨Int.le_refl _, rfl⟩
    obtain ⟨hs, rfl⟩ := hx
    unfold overE at h3
    rw [Bool.and_eq_false_iff, decide_eq_false_iff_not, decide_eq_false_iff_not] at h3
    omega
  · intro h
    refine ⟨⟨at_, c, now⟩, (for_mem _ _ _ _ _).2 ⟨?_, rfl, ?_, ?_⟩, rfl⟩
    · unfold setJ putJ
      rw [if_pos hm, if_neg (by omega)]
      exact List.mem_append.2 (.inr (List.mem_singleton.2 rfl))
    · unfold overE
      rw [Bool.and_eq_false_iff, decide_eq_false_iff_not, decide_eq_false_iff_not]
      show ¬ 0 ≤ c.age ∨ ¬ now + c.age ≤ now + later
      omega
    · exact (meant_self c at_.host at_.path at_.scheme h0 hp hm).1
end Go.Proofs.YtniehbjoogaccaaGreatDoor.Jar
namespace Go.Proofs.YtniehbjoogaccaaGreatDoor.Jar
open Go.RowKit Go.Shelf Go.ChangeShapes Go.WideShapes Url
set_option linter.unusedVariables false
def IsActV (w : World) (v : Value) : Prop := ∃ (k m : Int) (q1 : Option Addr) (n1 c1 : Nat) (z1 : List Int) (q2 : Option Addr) (n2 c2 : Nat) (z2 : List Int) (q3 : Option Addr) (n3 c3 : Nat) (z3 : List Int),
  v = .agg #[.int .i64 k, .int .i64 m, .slice q1 n1 c1, .slice q2 n2 c2, .slice q3 n3 c3] ∧ ((Lit.int .i64 k).wf = true ∧ (Lit.int .i64 m).wf = true) ∧ Row8 w q1 n1 c1 z1 ∧ Row8 w q2 n2 c2 z2 ∧ Row8 w q3 n3 c3 z3
set_option maxRecDepth 100000 in
theorem okWide_act {w : World} {r : Reach} {base : Nat} {v : Value} (h : Value.okWide Tryz.prog w r base 31 v) : ∃ cs, v = .agg cs := by
  unfold Value.okWide at h
  rw [Tryz.underlying31] at h
  obtain ⟨cs, rfl, -⟩ := h
  exact ⟨cs, rfl⟩
set_option maxRecDepth 100000 in
theorem open_actV {H : Type} {enc : TypeId × Value → H} {w : World} {base : Nat} {spare : Nat → Bool} {held : Bool} {fuel : Nat} {cs : Array Value} {x : DataW H × List MemPlace} (h : DataW.trod enc Tryz.prog w base spare held fuel 31 cs.toList = some x) :
    IsActV w (.agg cs) := by
  obtain ⟨xs, m, _, rfl, hl, hlen, hf⟩ := DataW.trod_struct Tryz.underlying31 h
  have e1 : Tryz.prog.cellsOf 3 = 1 := by kernel_rfl
  have e2 : Tryz.prog.cellsOf 29 = 1 := by kernel_rfl
  rw [show Tryz.prog.cellsOf 31 = 5 by kernel_rfl] at hl
  obtain ⟨cl⟩ := cs
  simp only at hl hf
  match cl, hl with
  | [v0, v1, v2, v3, v4], _ =>
    match xs, hlen with
    | [y0, y1, y2, y3, y4], _ =>
      have g0 : DataW.trod enc Tryz.prog w base spare held m 3 [v0] = some y0 := by simpa [e1] using hf 0 _ rfl
      have g1 : DataW.trod enc Tryz.prog w base spare held m 3 [v1] = some y1 := by simpa [e1] using hf 1 _ rfl
      have g2 : DataW.trod enc Tryz.prog w base spare held m 29 [v2] = some y2 := by simpa [e2] using hf 2 _ rfl
      have g3 : DataW.trod enc Tryz.prog w base spare held m 29 [v3] = some y3 := by simpa [e2] using hf 3 _ rfl
      have g4 : DataW.trod enc Tryz.prog w base spare held m 29 [v4] = some y4 := by simpa [e2] using hf 4 _ rfl
      obtain ⟨k0, e0, _, w0⟩ := DataW.trod_int Tryz.underlying3 g0
      obtain ⟨k1, e1, _, w1⟩ := DataW.trod_int Tryz.underlying3 g1
      cases e0; cases e1
      obtain ⟨q1, n1, c1, z1, rfl, r1⟩ := open_row8 g2
      obtain ⟨q2, n2, c2, z2, rfl, r2⟩ := open_row8 g3
      obtain ⟨q3, n3, c3, z3, rfl, r3⟩ := open_row8 g4
      exact ⟨k0, k1, q1, n1, c1, z1, q2, n2, c2, z2, q3, n3, c3, z3, rfl, ⟨w0, w1⟩, r1, r2, r3⟩
theorem actV_ax {w : World} {v : Value} (h : IsActV w v) : ∃ (x : Ax) (q1 : Option Addr) (n1 c1 : Nat) (q2 : Option Addr) (n2 c2 : Nat) (q3 : Option Addr) (n3 c3 : Nat),
    v = .agg #[.int .i64 x.kind, .int .i64 x.now, .slice q1 n1 c1, .slice q2 n2 c2, .slice q3 n3 c3] ∧ ((-9223372036854775808 ≤ x.now ∧ x.now ≤ 9223372036854775807) ∧ -9223372036854775808 ≤ x.kind ∧ x.kind ≤ 9223372036854775807) ∧
    By w (.slice q1 n1 c1) x.at_ ∧ By w (.slice q2 n2 c2) x.for_ ∧ By w (.slice q3 n3 c3) x.set := by
  obtain ⟨k, m, q1, n1, c1, z1, q2, n2, c2, z2, q3, n3, c3, z3, rfl, ⟨w0, w1⟩, r1, r2, r3⟩ := h
  obtain ⟨b1, y1⟩ := row8_by r1
  obtain ⟨b2, y2⟩ := row8_by r2
  obtain ⟨b3, y3⟩ := row8_by r3
  exact ⟨⟨k, m, b1, b2, b3⟩, q1, n1, c1, q2, n2, c2, q3, n3, c3, rfl, ⟨wf_i64 w1, wf_i64 w0⟩, y1, y2, y3⟩
end Go.Proofs.YtniehbjoogaccaaGreatDoor.Jar
namespace Go.Proofs.YtniehbjoogaccaaGreatDoor.jarSets
open Go.ChangeShapes Go.WideShapes Go.ChangeAt Go.RowKit
set_option linter.unusedVariables false
theorem own : ownKnob Tryz.prog.godebug = none := by kernel_rfl
theorem laidOut : laidOutB Tryz.prog = true := by kernel_rfl
theorem gTab : Tryz.prog.globalNamed "internal/strconv.uint64pow10" = some 1 := by kernel_rfl
def Walks : Prop := ∀ (a0 : Option Addr) (len0 cap0 : Nat) (a1 : Value) (a2 : Int) (w : World), Jar.IsActs w a0 len0 cap0 → Jar.IsActV w a1 → (Lit.int .i64 a2).wf = true → Url.Gl w →
  Calls Tryz.prog 5 #[.slice a0 len0 cap0, a1, .int .i64 a2] w fun e w' => e = .returned (.bool true) ∧ Below w.heap.size w w'
theorem gl {W : World} (hL : laidMetH Tryz.prog Rows.jarSetsRow.laid W) (hsh : W.ShapedOpen Tryz.prog) : Url.Gl W := by
  refine ⟨?_, ?_⟩
  · exact cell_of_shapedOpen_int (t := 3) (zero := #[.int .i64 0]) hsh (by decide +kernel) (by kernel_rfl) rfl (by kernel_rfl) (by kernel_rfl) (by kernel_rfl)
  · have hL' : laidMet Tryz.prog Rows.jarSetsRow.laid W := by
      rw [MakeChecks.laidMetH_plain _ _ _ (by kernel_rfl)] at hL; exact hL
    exact Lib.tabIs_of_head (rest := []) (t := 234) (e := 200) (n := 20) (k := .u64) (zs := Lib.pow10Tab) (g := 1) gTab (by kernel_rfl) (by kernel_rfl) (by kernel_rfl) (by kernel_rfl) (by kernel_rfl) (show laidMet Tryz.prog [("internal/strconv.uint64pow10", Lib.tabData .u64 Lib.pow10Tab)] W from hL'.tail.tail)
set_option maxRecDepth 100000 in
theorem contract (hw : Walks) (H : Type) (enc : TypeId × Value → H) (W : World) (base : Nat) (args : Array Value) (ds gs : List (DataW H)) (before : List MemPlace)
    (hval0 : ∀ (j : Nat) t v, Tryz.f5.params[j]? = some t → args[j]? = some v → Value.okWide Tryz.prog W .any base t v)
    (hW : DataW.Whole enc Tryz.prog Tryz.f5.params.toList Rows.jarSetsSpec.vars false W args.toList ds gs before) (hL : laidMetH Tryz.prog Rows.jarSetsRow.laid W) (hsh : W.ShapedOpen Tryz.prog) :
    Calls Tryz.prog 5 args W fun e W' => ∃ v, e = .returned v ∧ Rows.jarSetsSpec.post enc Tryz.prog Tryz.f5 false true false false W args v W' := by
  have hval : ∀ (j : Nat) t v, Tryz.f5.params[j]? = some t → args[j]? = some v → Value.okWide Tryz.prog W .any base t v := hval0
  have hW' := hW
  obtain ⟨p, q, hA0, hV, rfl, hfz, hnd⟩ := hW
  have hA : DataW.TrodAll enc Tryz.prog W 0 (fun _ => true) true Tryz.f5.params.toList args.toList ds p := hA0
  rw [Tryz.params5] at hA hval
  obtain ⟨v0, vs0, d0, ds0, p0, q0, hargs, rfl, rfl, h0, r0⟩ := trodAll_cons hA
  obtain ⟨v1, vs1, d1, ds1, p1, q1, rfl, rfl, rfl, h1, r1⟩ := trodAll_cons r0
  obtain ⟨v2, vs2, d2, ds2, p2, q2, rfl, rfl, rfl, h2, r2⟩ := trodAll_cons r1
  obtain ⟨rfl, rfl, rfl⟩ := trodAll_nil r2
  obtain rfl : args = #[v0, v1, v2] := by cases args; simp_all
  obtain ⟨rfl, rfl⟩ := trodVars_none hV
  obtain ⟨a0, len0, cap0, rfl⟩ := okWide_slice Tryz.underlying22 (hval 0 22 v0 rfl rfl)
  have k0 := h0
  have lt0 : ∀ x ∈ p0, x.block < W.heap.size := by obtain ⟨m, hm⟩ := k0; exact DataW.trod_lt m _ _ _ hm
  have w0 : Jar.IsActs W a0 len0 cap0 := by
    obtain ⟨fuel, hf⟩ := h0
    exact Jar.open_acts hf
  obtain ⟨cs1, rfl⟩ := Jar.okWide_act (hval 1 31 v1 rfl rfl)
  have k1 := h1
  have lt1 : ∀ x ∈ p1, x.block < W.heap.size := by obtain ⟨m, hm⟩ := k1; exact DataW.trod_lt m _ _ _ hm
  have w1 : Jar.IsActV W (.agg cs1) := by
    obtain ⟨fuel, hf⟩ := h1
    exact Jar.open_actV hf
  obtain ⟨a2, rfl, rfl, rfl, w2⟩ := open_int Tryz.underlying3 (hval 2 3 v2 rfl rfl) h2
  clear hA0 hval0
  refine (hw a0 len0 cap0 _ a2 W w0 w1 w2 (gl hL hsh)).mono fun e W' ⟨he, bel⟩ => ?_
  subst he
  exact ⟨_, rfl, _, _, _, [], _, [], hW', trodAll_mk1 (shut_bool Tryz.underlying4 _), (trodAll_cons_mk (Below.trod laidOut (by kernel_rfl) (of_decide_eq_true (by kernel_rfl)) k0 bel lt0) (trodAll_cons_mk (Below.trod laidOut (by kernel_rfl) (of_decide_eq_true (by kernel_rfl)) k1 bel lt1) (trodAll_cons_mk (shut_int Tryz.underlying3 w2) trodAll_mk0))), rfl, bel.frame _, fun h => by cases h⟩
theorem door_met (os : Os) : laidMet Tryz.prog Rows.jarSetsRow.laid ((World.doorLaid Tryz.prog 24 os).forCall (fun _ _ => 0) ⟨#[], #[.slice none 0 0, .agg #[.int .i64 0, .int .i64 0, .slice none 0 0, .slice none 0 0, .slice none 0 0], .int .i64 0], []⟩).memory :=
  laidMet_of_run' 8 (by kernel_rfl) (by kernel_rfl)
theorem reads (os : Os) {H : Type} (enc : TypeId × Value → H) : ∃ places, DataW.whole enc Tryz.prog ((World.doorLaid Tryz.prog 24 os).forCall (fun _ _ => 0) ⟨#[], #[.slice none 0 0, .agg #[.int .i64 0, .int .i64 0, .slice none 0 0, .slice none 0 0, .slice none 0 0], .int .i64 0], []⟩).memory Tryz.f5.params.toList Rows.jarSetsSpec.vars false #[Value.slice none 0 0, Value.agg #[.int .i64 0, .int .i64 0, .slice none 0 0, .slice none 0 0, .slice none 0 0], Value.int .i64 0].toList 8 = some ([.nil, .agg [.lit (.int .i64 0), .lit (.int .i64 0), .nil, .nil, .nil], .lit (.int .i64 0)], [], places) :=
  ⟨[], by kernel_rfl⟩
set_option maxRecDepth 100000 in
theorem lifted (hw : Walks) (os : Os) (started : os.Started) (H : Type) (enc : TypeId × Value → H) (F : Stop.Interp) :
    ReturnsInHanded {} Tryz.checked os 5 .any ((OpenSpec.ofChange Rows.jarSetsSpec).preRow enc Tryz.prog Tryz.f5 Rows.jarSetsRow.domain false Rows.jarSetsRow.laid) (((OpenSpec.ofChange Rows.jarSetsSpec).at F).post enc Tryz.prog Tryz.f5 false true false false) := by
  obtain ⟨places, hx⟩ := reads os enc
  refine returnsInHanded_of_row (C := Tryz.checked) (s := OpenSpec.ofChange Rows.jarSetsSpec) own started (by kernel_rfl) Tryz.func5
    (witness_row_at (enc := enc) (C := Tryz.checked) false (World.doorLaid Tryz.prog 24 os) #[.slice none 0 0, .agg #[.int .i64 0, .int .i64 0, .slice none 0 0, .slice none 0 0, .slice none 0 0], .int .i64 0] rfl (by kernel_rfl) (by kernel_rfl) (by kernel_rfl)
      (OpenSpec.preRow_of_cond 8 hx (by kernel_rfl) (fun k hk => by cases hk) (by kernel_rfl) (door_met os))) ?_
  intro W base args ds gs before hval hW _ _ _ hL hsh _
  exact contract hw H enc W base args ds gs before hval hW hL hsh
theorem said (hw : Walks) : Rows.JarSetsSaid :=
  OpenClaim.holds_of_cond 5 Tryz.f5 rfl rfl rfl rfl rfl rfl rfl ⟨rfl, rfl, rfl, rfl, rfl⟩ rfl rfl rfl rfl rfl (by kernel_rfl) Tryz.func5 (by kernel_rfl)
    (of_decide_eq_true (by kernel_rfl)) (by unfold Func.isWrapper; first | (rw [if_pos (by decide +kernel)]; kernel_rfl) | (rw [if_neg (by decide +kernel)]; exact ⟨rfl, rfl⟩))
    (fun os started H enc _ F => by rw [OpenClaim.pre_eq_preRow]; exact lifted hw os started H enc F)
theorem plain (f : FuncId) (fn : Func) (hf : Tryz.pinned.checked.prog.funcNamed "cordon/cordonlaw14.JarSets" = some f) (hfn : Tryz.pinned.checked.prog.funcs[f]? = some fn) :
    true = Tryz.pinned.checked.prog.looks [] ∧ ∀ (j : Nat) t, fn.params[j]? = some t → Tryz.pinned.checked.prog.wantsStandIn t = false := by
  obtain rfl : f = 5 := Option.some.inj ((show Tryz.prog.funcNamed "cordon/cordonlaw14.JarSets" = some 5 by kernel_rfl).symm.trans hf) |>.symm
  obtain rfl : fn = Tryz.f5 := (Option.some.inj (Tryz.func5.symm.trans hfn)).symm
  refine ⟨by kernel_rfl, fun j t ht => ?_⟩
  rw [Tryz.params5] at ht
  rcases (show t = 22 ∨ t = 31 ∨ t = 3 by simpa [or_comm] using Array.mem_of_getElem? ht) with rfl | rfl | rfl
  · exact (show Tryz.prog.wantsStandIn 22 = false by kernel_rfl)
  · exact (show Tryz.prog.wantsStandIn 31 = false by kernel_rfl)
  · exact (show Tryz.prog.wantsStandIn 3 = false by kernel_rfl)
theorem card (hw : Walks) : Rows.JarSetsCardSaid :=
  Claim7.holds_tied_plain_at .later [] _ _ _ _ (said hw) (fun _ h => by cases h) (by kernel_rfl) (fun _ h => by cases h) jarSets_row_tie rfl ⟨rfl, rfl⟩ (by kernel_rfl) rfl plain (by kernel_rfl)
end Go.Proofs.YtniehbjoogaccaaGreatDoor.jarSets
namespace Go.Proofs.YtniehbjoogaccaaGreatDoor.Url
open Go.RowKit Go.Shelf
attribute [local go_sem] Oper.semAt_some
theorem Box.drew {B : Nat} {cs : Array Value} {X : World} (h : Box B cs X) : Box B cs X.drew := h
end Go.Proofs.YtniehbjoogaccaaGreatDoor.Url
namespace Go.Proofs.YtniehbjoogaccaaGreatDoor.Jar
open Go.RowKit Go.Shelf Url Ck
attribute [local go_sem] Oper.semAt_some
set_option linter.unusedVariables false
theorem info_ck : (Tryz.prog.info? 42).map (fun i => (i.zero, i.size, i.bytes)) = some (some (.agg #[.slice none 0 0, .slice none 0 0, .slice none 0 0, .string ⟨#[]⟩, .int .i64 0, .bool false]), 6, 104) := by kernel_rfl
theorem six_new (w : World) (cs : Array Value) (t : TypeId) : ∀ j u, cs.toList[j]? = some u → (w.alloc (.cells cs t)).cell? ((⟨w.heap.size, 0, none⟩ : Addr).add j) = some u := fun j u h => by
  rw [Go.WideShapes.add_plain]
  have hn : (w.alloc (.cells cs t)).heap[w.heap.size]? = some (.cells cs t) := World.alloc_heap_new w _
  simp only [World.cell?, hn, Nat.zero_add]
  simpa using h
def AllC (n₀ Bo : Nat) (w : World) (pre : List Ck) (Pv : Nat → Prop) (W : World) : Prop :=
  ∃ (v : Value) (zs : List CZ), zs.map Prod.snd = pre ∧ Boxed W Bo 56 v ∧ W.ownsRow n₀ 42 6 v pre.length (zs.flatMap ckRow) ∧
    (∀ z ∈ zs, CAt W z ∧ ∀ b, blkZ z b → ¬ Pv b ∧ b ≠ Bo ∧ v.ownBlock ≠ some b) ∧ (∀ b, Pv b → n₀ ≤ b) ∧ ¬ Pv Bo ∧ (∀ b, v.ownBlock = some b → ¬ Pv b) ∧ Below n₀ w W
theorem AllC_abide (n₀ Bo : Nat) (w : World) (hn : n₀ ≤ w.heap.size) : Abide (AllC n₀ Bo w) := by
  rintro pre Pv Pv' A B ⟨v, zs, h0, h1, h2, hz, h3, h4, h5, h6⟩ hk hp
  have hs := h6.size
  refine ⟨v, zs, h0, hk.boxed h1 h4, hk.row h2 h5, fun z hzm => ⟨(hz z hzm).1.keep hk (fun b hb => ((hz z hzm).2 b hb).1), fun b hb => ⟨fun hp' => ?_, ((hz z hzm).2 b hb).2⟩⟩, fun b hb => ?_, fun hb => ?_, fun b hb hp' => ?_, h6.trans ⟨hk.os, hk.tape, hk.output, hk.size, fun k hk' => hk.block k (by omega) (fun hpk => by have := h3 k hpk; omega)⟩⟩
  · rcases (hp b hp').1 with h | h
    · exact ((hz z hzm).2 b hb).1 h
    · have := (hz z hzm).1.lt b hb; omega
  · rcases (hp b hb).1 with h | h
    · exact h3 b h
    · omega
  · rcases (hp _ hb).1 with h | h
    · exact h4 h
    · have := h1.lt; omega
  · rcases (hp _ hp').1 with h | h
    · exact h5 b hb h
    · have := (h2.lt b hb).2; omega
set_option maxRecDepth 100000 in
set_option maxHeartbeats 8000000 in
theorem all_any (gf : Nat) (lb : Array Value) (xs : List Ck) (RB : Nat → Prop) (w : World) (eg : ∀ args w, (callFunc gf args).run Tryz.prog w = .ok (.enter gf args) w)
    (hi : IterC Tryz.prog gf lb (CkArg RB) xs RB w) (hRs : ∀ b, RB b → b < w.heap.size) (hN : xs.length ≤ 1048576) :
    Calls Tryz.prog 19 #[.func (.func gf) #[] lb] w fun e w' => ∃ (v : Value) (zs : List CZ), e = .returned v ∧ zs.map Prod.snd = xs ∧ w'.ownsRow w.heap.size 42 6 v xs.length (zs.flatMap ckRow) ∧ (∀ z ∈ zs, CAt w' z) ∧ Below w.heap.size w w' := by
  obtain ⟨i0, hi0, hz0, hz1, hz2⟩ := info_parts info_ck
  refine (callsIn_wide (n := 1)).1 ?_
  refine callsIn_of_wp_marks Tryz.func19 rfl trivial ?_ rfl
  simp only [Tryz.ntmps19, List.size_toArray, List.length_cons, List.length_nil, Nat.reduceAdd, Nat.reduceSub, Array.replicate_succ, Array.replicate_zero, List.push_toArray, List.append_toArray, List.nil_append, List.cons_append]
  gi_wp2
  have bO := Boxed.new w 56 (.slice none 0 0)
  obtain ⟨W0, hW0⟩ : ∃ W0, w.alloc (.cells #[.slice none 0 0] 56) = W0 := ⟨_, rfl⟩
  rw [hW0] at bO ⊢
  have hB0 : Below w.heap.size w W0 := hW0 ▸ (Below.refl _ w).alloc (Nat.le_refl _) _
  have hs0 : W0.heap.size = w.heap.size + 1 := by rw [← hW0]; simp
  clear hW0
  refine rf_law (gf := gf) (lb := lb) rfl eg hi ((Keep.of_below hB0).mono fun b _ hb => hRs b hb) (fun b hb => by have := hRs b hb; omega) (fun x args G W h => by obtain ⟨z, _, rfl, _⟩ := h; rfl)
    (AllC w.heap.size w.heap.size w) (fun _ _ _ _ => False) (AllC_abide _ _ _ (Nat.le_refl _)) (fun _ _ _ _ _ _ h _ _ => h)
    ⟨_, [], rfl, bO, World.ownsRow_nil _ _ _ _, (fun _ h => by cases h), (fun _ h => h.elim), (fun h => h), (fun _ h => by cases h), hB0⟩ ?round ?done ?stop
  case round =>
    rintro ll pre x rest Pv G args Wr hll hxs ⟨v, zs, hzs, hbx, hrow, hcz, hge, hnB, hnv, hBl⟩ hPl hGl hPb hGP ⟨⟨⟨⟨⟨q1, n1, c1⟩, ⟨q2, n2, c2⟩⟩, ⟨q3, n3, c3⟩⟩, y⟩, hyx, rfl, hC, hgb⟩
    simp only at hyx
    subst hyx
    have hlen : pre.length + rest.length + 1 = xs.length := by rw [hxs]; simp; omega
    have hvl : ∀ b, v.ownBlock = some b → w.heap.size ≤ b ∧ b < Wr.heap.size := fun b hb => hrow.lt b hb
    have hBsz := hBl.size
    have hbol := hbx.lt
    have hCl := hC.lt
    simp only [ckRow, vC]
    gi_wp2
    refine ⟨Keep.alloc _ _ _, fun W2 hk2 hs2 hr => ?_⟩
    have hka := Keep.alloc (fun _ => True) Wr (.cells #[.slice q1 n1 c1, .slice q2 n2 c2, .slice q3 n3 c3, .string ⟨y.dom.toArray⟩, .int .i64 y.age, .bool y.secure] 42)
    have hll2 := hPb ll hPl
    have gf0 : W2.heap[Wr.heap.size]? = some (.cells #[.slice q1 n1 c1, .slice q2 n2 c2, .slice q3 n3 c3, .string ⟨y.dom.toArray⟩, .int .i64 y.age, .bool y.secure] 42) := hk2.heap (show Wr.heap.size ≠ ll by omega) (World.alloc_heap_new Wr _)
    have hk2' : Keep (fun b => ¬ Pv b) Wr W2 := (hka.mono fun _ _ _ => trivial).trans (hk2.mono fun b _ hb h => hb (h ▸ hPl))
    replace hbx := hk2'.boxed hbx hnB
    replace hrow := hk2'.row hrow hnv
    have hcz2 : ∀ z ∈ zs, CAt W2 z ∧ ∀ b, blkZ z b → ¬ Pv b ∧ b ≠ w.heap.size ∧ v.ownBlock ≠ some b := fun z hz => ⟨(hcz z hz).1.keep hk2' (fun b hb => ((hcz z hz).2 b hb).1), (hcz z hz).2⟩
    have hC2 : CAt W2 ((((q1, n1, c1), (q2, n2, c2)), (q3, n3, c3)), y) := hC.keep ((hka.mono fun _ _ _ => trivial).trans hk2) (fun b hb h => by
      subst h
      rcases hgb b hb with h | h
      · exact hGl h
      · have := hRs b h; omega)
    have hBl2 : Below w.heap.size w W2 := hBl.trans ((hk2'.mono fun b hb h hpb => by have := hge b hpb; omega).below hBl.size)
    have cB := hbx.cell
    have fB := hbx.frozen
    have hszB := hBl2.size
    have hpl : pre.length + 1 ≤ 1048576 := by omega
    have hPl2 : ∀ b, Pv b → b < W2.heap.size := fun b hb => Nat.lt_of_lt_of_le (hPb b hb) hk2'.size
    have hszr : Wr.heap.size < W2.heap.size := (Array.getElem?_eq_some_iff.1 gf0).1
    have xf0 : W2.cell? ⟨Wr.heap.size, 0, none⟩ = some (.slice q1 n1 c1) := by simp [World.cell?, gf0]
    have xf1 : W2.cell? ⟨Wr.heap.size, 1, none⟩ = some (.slice q2 n2 c2) := by simp [World.cell?, gf0]
    have xf2 : W2.cell? ⟨Wr.heap.size, 2, none⟩ = some (.slice q3 n3 c3) := by simp [World.cell?, gf0]
    have xf3 : W2.cell? ⟨Wr.heap.size, 3, none⟩ = some (.string ⟨y.dom.toArray⟩) := by simp [World.cell?, gf0]
    have xf4 : W2.cell? ⟨Wr.heap.size, 4, none⟩ = some (.int .i64 y.age) := by simp [World.cell?, gf0]
    have xf5 : W2.cell? ⟨Wr.heap.size, 5, none⟩ = some (.bool y.secure) := by simp [World.cell?, gf0]
    have HCZ := Lib.hid hcz2
    have HC2 := Lib.hid hC2
    have HGB := Lib.hid hgb
    have HCL := Lib.hid hCl
    clear hs2 hxs hlen hBl hr hk2' hk2 hka gf0 hcz hC hcz2 hC2 hgb hCl
    gi_wp2_with (gi_at_builtin; go_must (refine wpListIn_append_own_at _ rfl _ _ 56 rfl w.heap.size 42 i0 (.agg #[.slice none 0 0, .slice none 0 0, .slice none 0 0, .string ⟨#[]⟩, .int .i64 0, .bool false]) 6 104 Tryz.underlying56 hi0 hz0 hz1 hz2 rfl (by decide) _ _ _ rfl (hrow.alloc _) ⟨W2.heap.size, 0, none⟩ 1 1 [.slice q1 n1 c1, .slice q2 n2 c2, .slice q3 n3 c3, .string ⟨y.dom.toArray⟩, .int .i64 y.age, .bool y.secure] rfl rfl (six_new _ _ _) (by simp [Value.oneCell']) (by unfold maxLen; omega) (by omega) (by simp; omega) ?_); intro v' w1 hown' hgrow _ hat; obtain ⟨g', cap', rfl⟩ := ownsRow_succ hown'; obtain ⟨hv1, hv2, hr2, hk2, hb2⟩ := hbx.appended (by decide) hrow hszB (Nat.le_refl _) hown' hgrow; have hc1 := hv1.cell; have hf1 := hv1.frozen)
    have hat' : some g' = v.ownBlock ∨ some g' = some (W2.alloc (.cells #[.slice q1 n1 c1, .slice q2 n2 c2, .slice q3 n3 c3, .string ⟨y.dom.toArray⟩, .int .i64 y.age, .bool y.secure] 42)).heap.size := hat
    have hgn : ∀ b, b < W2.heap.size → v.ownBlock ≠ some b → g' ≠ b := fun b hb hv h => by
      rcases hat' with h' | h'
      · exact hv (h' ▸ h ▸ rfl)
      · have := Option.some.inj h'
        simp at this
        omega
    have hkS : ∀ S : Nat → Prop, ¬ S w.heap.size → (∀ b, v.ownBlock = some b → ¬ S b) → Keep S W2 (w1.setCell ⟨w.heap.size, 0, none⟩ (.slice (some ⟨g', 0, none⟩) (pre.length + 1) cap')) := fun S h1 h2 =>
      ((Keep.alloc S W2 _).trans (Keep.of_grownBy hgrow fun r hr' => h2 r hr')).trans (Keep.setCell _ _ _ h1)
    have hnew : ∀ b, blkZ ((((q1, n1, c1), (q2, n2, c2)), (q3, n3, c3)), y) b → b ≠ w.heap.size ∧ v.ownBlock ≠ some b := fun b hb => by
      rcases HGB.out b hb with h | h
      · exact ⟨fun e => hnB (e ▸ hGP b h), fun e => hnv b e (hGP b h)⟩
      · have h1 := hRs b h
        exact ⟨by omega, fun e => by have := (hvl b e).1; omega⟩
    refine ⟨hkS _ (fun h => ?_) (fun b hb h => ?_), _, zs ++ [((((q1, n1, c1), (q2, n2, c2)), (q3, n3, c3)), y)], by rw [List.map_append, hzs]; rfl, hv2, ?_, fun z hz => ?_, fun b hb => hge b hb.1, fun hb => hnB hb.1, fun b hb hp => ?_, hBl2.trans hb2⟩
    · rcases h with h | h
      · have := hRs _ h; omega
      · exact hnB h.1
    · rcases h with h | h
      · have := hRs _ h; have := (hvl b hb).1; omega
      · exact hnv b hb h.1
    · rw [List.length_append, List.flatMap_append]
      exact hr2
    · rcases List.mem_append.1 hz with hz | hz
      · obtain ⟨h1, h2⟩ := HCZ.out z hz
        refine ⟨h1.keep (hkS (blkZ z) (fun h => (h2 _ h).2.1 rfl) (fun b hb h => (h2 b h).2.2 hb)) (fun _ h => h), fun b hb => ⟨fun h => (h2 b hb).1 h.1, (h2 b hb).2.1, fun h => ?_⟩⟩
        exact hgn b (h1.lt b hb) (h2 b hb).2.2 (Option.some.inj h)
      · obtain rfl := List.mem_singleton.1 hz
        refine ⟨HC2.out.keep (hkS (blkZ ((((q1, n1, c1), (q2, n2, c2)), (q3, n3, c3)), y)) (fun h => (hnew _ h).1 rfl) (fun b hb h => (hnew b h).2 hb)) (fun _ h => h), fun b hb => ⟨fun h => ?_, (hnew b hb).1, fun h => ?_⟩⟩
        · rcases HGB.out b hb with hg | hr
          · exact h.2 hg
          · have := hRs b hr; have := hge b h.1; omega
        · exact hgn b (HC2.out.lt b hb) (hnew b hb).2 (Option.some.inj h)
    · obtain rfl := Option.some.inj hb
      rcases hat' with h | h
      · exact hnv g' h.symm hp.1
      · have h1 := Option.some.inj h
        have h2 := hPl2 g' hp.1
        simp at h1
        omega
  case done =>
    rintro D Pv Wd hD hPD hPl ⟨v, zs, hzs, hbx, hrow, hcz, hge, hnB, hnv, hBl⟩ hK
    have cB := hbx.cell
    gi_wp2
    refine ⟨by simp, .inl ⟨_, _, rfl, run_takeDeferred hK, ?_⟩⟩
    have hkp : Keep (fun b => ¬ Pv b) Wd (Wd.putObj D (.deferred none)) := Keep.putObj (S := fun b => ¬ Pv b) Wd D _ (fun h => h hPD)
    exact ⟨_, results_tmp rfl _ _ _, v, zs, rfl, hzs, hkp.row hrow hnv, fun z hz => (hcz z hz).1.keep hkp (fun b hb => ((hcz z hz).2 b hb).1), hBl.trans (belowK_b (w := w) (Nat.le_refl _) Wd D _ _ (hge D hPD) hK rfl rfl)⟩
  case stop =>
    rintro D c pre rest Pv Wd _ _ _ _ h _
    exact h.elim
def CkCells (w : World) (g o : Nat) (z : CZ) : Prop := w.cell? ⟨g, o, none⟩ = some (vC z.1.1.1) ∧ w.cell? ⟨g, o + 1, none⟩ = some (vC z.1.1.2) ∧ w.cell? ⟨g, o + 2, none⟩ = some (vC z.1.2) ∧ w.cell? ⟨g, o + 3, none⟩ = some (.string ⟨z.2.dom.toArray⟩) ∧ w.cell? ⟨g, o + 4, none⟩ = some (.int .i64 z.2.age) ∧ w.cell? ⟨g, o + 5, none⟩ = some (.bool z.2.secure)
def CksIn (w : World) (q : Option Addr) (zs : List CZ) : Prop := (∀ z ∈ zs, CAt w z) ∧ (0 < zs.length → ∃ g o, q = some ⟨g, o, none⟩ ∧ g < w.heap.size ∧ ∀ i z, zs[i]? = some z → CkCells w g (o + i * 6) z)
theorem CksIn.on {w w' : World} {q : Option Addr} {zs : List CZ} (h : CksIn w q zs) (hb : Below w.heap.size w w') : CksIn w' q zs := by
  refine ⟨fun z hz => (h.1 z hz).keep (Keep.of_below hb) (fun b hb => (h.1 z hz).lt b hb), fun h0 => ?_⟩
  obtain ⟨g, o, rfl, hg, hc⟩ := h.2 h0
  have e : ∀ k, w'.cell? ⟨g, k, none⟩ = w.cell? ⟨g, k, none⟩ := fun k => World.cell?_of_block (hb.block g hg)
  refine ⟨g, o, rfl, Nat.lt_of_lt_of_le hg hb.size, fun i z hz => ?_⟩
  obtain ⟨h0, h1, h2, h3, h4, h5⟩ := hc i z hz
  exact ⟨(e _).trans h0, (e _).trans h1, (e _).trans h2, (e _).trans h3, (e _).trans h4, (e _).trans h5⟩
theorem rows_get : ∀ (zs : List CZ) (i : Nat) (z : CZ), zs[i]? = some z → ∀ j v, (ckRow z)[j]? = some v → (zs.flatMap ckRow)[i * 6 + j]? = some v
  | [], i, z, h => by simp at h
  | y :: r, 0, z, h => by
    simp at h; subst h
    intro j v hv
    rw [List.flatMap_cons, Nat.zero_mul, Nat.zero_add, List.getElem?_append_left (List.getElem?_eq_some_iff.1 hv).1]
    exact hv
  | y :: r, i + 1, z, h => by
    have h' : r[i]? = some z := by simpa using h
    intro j v hv
    have ih := rows_get r i z h' j v hv
    have hl : (ckRow y).length = 6 := rfl
    rw [List.flatMap_cons, List.getElem?_append_right (by rw [hl]; omega), hl, show (i + 1) * 6 + j - 6 = i * 6 + j by omega]
    exact ih
theorem cks_open {W : World} {base n : Nat} {v : Value} {zs : List CZ} (h : W.ownsRow base 42 6 v n (zs.flatMap ckRow)) (hn : zs.length = n) (hz : ∀ z ∈ zs, CAt W z) : ∃ q c, v = .slice q n c ∧ CksIn W q zs := by
  rcases h.2 with ⟨rfl, hm⟩ | ⟨g, cap, cur, rfl, hb, hg, h1, h2, h3, h4⟩
  · have hz0 : n = 0 := by assumption
    subst hz0
    exact ⟨none, 0, rfl, hz, fun h0 => absurd h0 (by omega)⟩
  · have hgl := (Array.getElem?_eq_some_iff.1 hg).1
    refine ⟨some ⟨g, 0, none⟩, cap, rfl, hz, fun _ => ⟨g, 0, rfl, hgl, fun i z hi => ?_⟩⟩
    have hil : i < zs.length := (List.getElem?_eq_some_iff.1 hi).1
    have key : ∀ j u, (ckRow z)[j]? = some u → W.cell? ⟨g, 0 + i * 6 + j, none⟩ = some u := fun j u hu => by
      have hj : j < 6 := (List.getElem?_eq_some_iff.1 hu).1
      have hc := rows_get zs i z hi j u hu
      rw [← h4, List.getElem?_take, if_pos (by omega)] at hc
      simp only [World.cell?, hg, Nat.zero_add]
      simpa using hc
    exact ⟨key 0 _ rfl, key 1 _ rfl, key 2 _ rfl, key 3 _ rfl, key 4 _ rfl, key 5 _ rfl⟩
end Go.Proofs.YtniehbjoogaccaaGreatDoor.Jar
namespace Go.Proofs.YtniehbjoogaccaaGreatDoor.Jar
open Go.RowKit Go.Shelf Url Ck
attribute [local go_sem] Oper.semAt_some
set_option linter.unusedVariables false
theorem For_any (M : Nat → Prop) (p : Addr) (l : List En) (o x : U) (b : Value) (now : Int) (w : World) (h : JarIn M (.pointer (some p)) l w) (ho : OkZ o) (hb : UrlIn w b x) (hx : OkZ x) (hn : 0 ≤ now ∧ now ≤ 9223372036854775807) (hG : Gl w) :
    Calls Tryz.prog 20 #[.pointer (some p), Org.orgV o.scheme o.host o.port 0, b, .int .i64 now] w (ItOut CkArg ((forJ (keyU o) x now l).map En.c) w) := by
  refine (For_out M p l o x b now w h ho hb hx hn hG).mono ?_
  rintro e w' ⟨gf, lb, RB, h1, h2, h3, h4, h5, -⟩
  exact ⟨gf, lb, RB, h1, h2, h3, h4, h5⟩
end Go.Proofs.YtniehbjoogaccaaGreatDoor.Jar
namespace Go.Proofs.YtniehbjoogaccaaGreatDoor.Jar
open Go.RowKit Go.Shelf Url Ck
attribute [local go_sem] Oper.semAt_some
set_option linter.unusedVariables false
theorem flat_count (f : En → Nat) (e : En) (r : List En) : ∀ ns : List Nat, (ns.flatMap fun n => (e :: r).filter fun x => f x == n).length = ns.count (f e) + (ns.flatMap fun n => r.filter fun x => f x == n).length
  | [] => rfl
  | n :: ns => by
    have ih := flat_count f e r ns
    rw [List.flatMap_cons, List.flatMap_cons, List.length_append, List.length_append, ih, List.count_cons, List.filter_cons]
    by_cases h : f e = n
    · rw [if_pos (by simpa using h), if_pos (by simpa using h.symm), List.length_cons]; omega
    · rw [if_neg (by simpa using h), if_neg (by simpa using fun h' => h h'.symm)]; omega
theorem flat_nil (f : En → Nat) : ∀ ns : List Nat, (ns.flatMap fun n => ([] : List En).filter fun x => f x == n) = []
  | [] => rfl
  | n :: ns => by rw [List.flatMap_cons, flat_nil f ns]; rfl
theorem flat_len (f : En → Nat) (ns : List Nat) (hn : ns.Nodup) : ∀ l : List En, (ns.flatMap fun n => l.filter fun x => f x == n).length ≤ l.length
  | [] => by rw [flat_nil]; exact Nat.le_refl _
  | e :: r => by
    have ih := flat_len f ns hn r
    have h1 : ns.count (f e) ≤ 1 := List.nodup_iff_count.1 hn (f e)
    rw [flat_count, List.length_cons]
    omega
theorem for_len (k : Key) (u : U) (now : Int) (l : List En) : (forJ k u now l).length ≤ l.length := by
  unfold forJ byLen
  refine Nat.le_trans (flat_len homeE _ ((List.reverse_perm _).nodup_iff.2 List.nodup_range) _) ?_
  unfold hereJ
  exact Nat.le_trans (List.length_filter_le _ _) (List.length_filter_le _ _)
end Go.Proofs.YtniehbjoogaccaaGreatDoor.Jar
