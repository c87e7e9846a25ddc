/- JarSets: the law returns true at whatever input, and writes nothing that was there: its tied card. Conditions: none. -/
import Derived.Test.YtniehbjoogaccaaGreatDoorBaseI
import Derived.Deep.DeepCutAuto
namespace Go.Proofs.YtniehbjoogaccaaGreatDoor.jarSets
open Go.RowKit Go.Shelf Url Ck Jar
attribute [local go_sem] Oper.semAt_some
set_option linter.unusedVariables false

theorem one_act {W : World} (x : Ax) (q1 : Option Addr) (n1 c1 : Nat) (q2 : Option Addr) (n2 c2 : Nat) (q3 : Option Addr) (n3 c3 : Nat)
    (hi : (-9223372036854775808 ≤ x.now ∧ x.now ≤ 9223372036854775807) ∧ -9223372036854775808 ≤ x.kind ∧ x.kind ≤ 9223372036854775807) (y1 : By W (.slice q1 n1 c1) x.at_) (y2 : By W (.slice q2 n2 c2) x.for_) (y3 : By W (.slice q3 n3 c3) x.set) :
    ActsIn (W.alloc (.cells #[.int .i64 x.kind, .int .i64 x.now, .slice q1 n1 c1, .slice q2 n2 c2, .slice q3 n3 c3] 31)) (some ⟨W.heap.size, 0, none⟩) 1 [x] := by
  have hb := below_alloc (w := W) (.cells #[.int .i64 x.kind, .int .i64 x.now, .slice q1 n1 c1, .slice q2 n2 c2, .slice q3 n3 c3] 31)
  refine ⟨rfl, fun _ => ⟨W.heap.size, 0, rfl, by rw [World.size_alloc]; omega, fun i y hy => ?_⟩⟩
  obtain ⟨hi0, rfl⟩ : i = 0 ∧ x = y := by
    cases i with
    | zero => exact ⟨rfl, by simpa using hy⟩
    | succ n => simp at hy
  subst hi0
  have bx := Box.new W #[.int .i64 x.kind, .int .i64 x.now, .slice q1 n1 c1, .slice q2 n2 c2, .slice q3 n3 c3] 31
  exact ⟨q1, n1, c1, q2, n2, c2, q3, n3, c3, bx 0 _ rfl, bx 1 _ rfl, bx 2 _ rfl, bx 3 _ rfl, bx 4 _ rfl, hi, y1.on hb, y2.on hb, y3.on hb⟩
/-- What holds of all that was set up to a moment. -/
def PE (now : Int) (e : En) : Prop := e.set ≤ now ∧ parseC (textC e.c) = .inr e.c
theorem act_pe (now : Int) (l : List En) (x : Ax) (h : ∀ e ∈ l, PE now e) (hx : x.now ≤ now) (hs : x.set.length ≤ 300) : ∀ e ∈ actN l x, PE now e := fun e he => by
  rcases act_is l x with h1 | ⟨u, c, h1, h2, h3⟩
  · rw [h1] at he; exact h e he
  · rw [h3] at he
    rcases setN_or l u c x.now with h4 | h4
    · rw [h4] at he; exact h e he
    · rw [h4] at he
      rcases mem_set l u c x.now e he with h5 | rfl
      · exact h e h5
      · exact ⟨hx, Ck.parse_back x.set c (by omega) h2⟩
theorem num_of (a now : Int) (h0 : 0 ≤ now) (h1 : now ≤ 1073741824) : ∃ n : Int, 0 ≤ n ∧ n ≤ now ∧ wrap64 ((IntKind.u64.wrap a).tmod (now + 1)) = n := by
  have hu := wrap_u64_nonneg a
  have ht : (IntKind.u64.wrap a).tmod (now + 1) = IntKind.u64.wrap a % (now + 1) := Int.tmod_eq_emod_of_nonneg hu
  have h2 := Int.emod_nonneg (IntKind.u64.wrap a) (show now + 1 ≠ 0 by omega)
  have h3 := Int.emod_lt_of_pos (IntKind.u64.wrap a) (show 0 < now + 1 by omega)
  refine ⟨IntKind.u64.wrap a % (now + 1), h2, by omega, ?_⟩
  rw [ht]
  unfold wrap64
  omega
theorem num_at (a : Int) : ∃ n : Int, 0 ≤ n ∧ n < 2147483648 ∧ wrap64 ((IntKind.u64.wrap a).tmod 2147483648) = n := by
  obtain ⟨n, h1, h2, h3⟩ : ∃ n : Int, 0 ≤ n ∧ n < 2147483648 ∧ (IntKind.u64.wrap a).tmod 2147483648 = n := by
    have ht : (IntKind.u64.wrap a).tmod 2147483648 = IntKind.u64.wrap a % 2147483648 := Int.tmod_eq_emod_of_nonneg (wrap_u64_nonneg a)
    exact ⟨_, by omega, by omega, ht⟩
  exact ⟨n, h1, h2, by rw [h3]; unfold wrap64; omega⟩

theorem parse_len (t : List UInt8) (c : Ck) (h : parseC t = .inr c) : t.length ≤ 4096 := by
  unfold parseC at h
  by_cases hl : 4096 < t.length
  · rw [if_pos hl] at h; cases h
  · omega
theorem pe_ok {now : Int} {e : En} (h : PE now e) : Ck.Ok e.c ∧ Small 4096 e.c := ⟨Ck.parse_ok _ _ h.2, small_le (Ck.parse_small _ _ h.2) (parse_len _ _ h.2)⟩
theorem path47 {u : U} (h : Url.Ok u) : u.path.head? = some 47 := by
  obtain ⟨R, _, hp, _⟩ := h.path
  rw [hp]; rfl
theorem there_is (l1 : List En) (u : U) (c : Ck) (now nl : Int) (zs : List CZ) (hz : zs.map Prod.snd = (forJ (keyU u) u (now + nl) (setJ l1 u c now)).map En.c) (h0 : c.path = []) (hu : Url.Ok u) (hm : mayB c u.host u.scheme = true) (hl : 0 ≤ nl)
    (hall : ∀ e ∈ l1, PE now e) (hc : parseC (textC c) = .inr c) (ha : -1 ≤ c.age) : (zs.any fun z => decide (textC z.2 = textC c)) = decide (c.age < 0 ∨ nl < c.age) := by
  rw [Bool.eq_iff_iff, decide_eq_true_iff, List.any_eq_true, ← set_there l1 u c now nl h0 (path47 hu) hm hl (fun e he => ⟨(hall e he).1, fun ht => by
    have h1 := (hall e he).2
    rw [ht, hc] at h1
    exact (Sum.inr.inj h1).symm⟩) ha]
  constructor
  · rintro ⟨z, hzm, ht⟩
    have h1 : z.2 ∈ zs.map Prod.snd := List.mem_map.2 ⟨z, hzm, rfl⟩
    rw [hz] at h1
    obtain ⟨e, he, hez⟩ := List.mem_map.1 h1
    exact ⟨e, he, by rw [hez]; exact of_decide_eq_true ht⟩
  · rintro ⟨e, he, ht⟩
    have h1 : e.c ∈ (forJ (keyU u) u (now + nl) (setJ l1 u c now)).map En.c := List.mem_map.2 ⟨e, he, rfl⟩
    rw [← hz] at h1
    obtain ⟨z, hzm, hze⟩ := List.mem_map.1 h1
    exact ⟨z, hzm, decide_eq_true (by rw [hze]; exact ht)⟩
theorem take_any (zs : List CZ) (k : Nat) (z : CZ) (p : CZ → Bool) (h : zs[k]? = some z) : (zs.take (k + 1)).any p = ((zs.take k).any p || p z) := by
  rw [take_snocA zs k z h, List.any_append]
  simp

set_option maxRecDepth 100000 in
set_option maxHeartbeats 32000000 in
theorem walk : Walks := by
  intro a0 len0 cap0 a1 a2 w w0 w1 w2 hG
  obtain ⟨L, hL⟩ := acts_in w0
  obtain ⟨s, qa, na, ca, qb, nb, cb, qc, nc, cc, rfl, hi, y1, y2, y3⟩ := actV_ax w1
  have hlat := wf_i64 w2
  clear w0 w1 w2
  obtain ⟨bs, hbs⟩ : ∃ b, w.heap.size = b := ⟨_, rfl⟩
  obtain ⟨X0, hX0⟩ : ∃ Z, w.alloc (.cells #[.int .i64 s.kind, .int .i64 s.now, .slice qa na ca, .slice qb nb cb, .slice qc nc cc] 31) = Z := ⟨_, rfl⟩
  have hb2 : Below w.heap.size w X0 := hX0 ▸ below_alloc _
  have sb : Box bs #[.int .i64 s.kind, .int .i64 s.now, .slice qa na ca, .slice qb nb cb, .slice qc nc cc] X0 := hX0 ▸ hbs ▸ Box.new w _ _
  have con := Jar.lives_any X0 (hG.on hb2)
  have HG := Lib.hid hG
  have HX0 := Lib.hid hX0
  have HBS := Lib.hid hbs
  have HLA := Lib.hid hL
  have HI := Lib.hid hi
  have HY1 := Lib.hid y1
  have HY2 := Lib.hid y2
  have HY3 := Lib.hid y3
  clear hG hX0 hbs hL hi y1 y2 y3
  go_enter Tryz.func5, Tryz.ntmps5
  go_wp2_with fail
  rw [HX0.out, HBS.out]
  refine con.mono ?_
  rintro e w2 ⟨rfl, hb⟩
  replace sb := Box.on sb hb
  replace hb2 := hb2.trans (hb.mono hb2.size)
  clear con hb HX0
  have con := few_any a0 len0 cap0 L w2 (HLA.out.on hb2)
  go_wp2_with fail
  refine con.mono ?_
  rintro e w3 ⟨rfl, hb⟩
  replace sb := Box.on sb hb
  replace hb2 := hb2.trans (hb.mono hb2.size)
  clear con hb
  cases hfew : fewB L with
  | false =>
    clear hfew sb
    have con := Jar.lives_any w3 (HG.out.on hb2)
    go_wp2_with fail
    refine con.mono ?_
    rintro e w9 ⟨rfl, hb3⟩
    go_wp2
    go_ret
    exact ⟨rfl, hb2.trans (hb3.mono hb2.size)⟩
  | true =>
    have HFW := Lib.hid hfew
    clear hfew
    have hb := below_alloc (w := w3) (.cells #[.int .i64 s.kind, .int .i64 s.now, .slice qa na ca, .slice qb nb cb, .slice qc nc cc] 31)
    have con := few_any (some ⟨w3.heap.size, 0, none⟩) 1 1 [s] (w3.alloc (.cells #[.int .i64 s.kind, .int .i64 s.now, .slice qa na ca, .slice qb nb cb, .slice qc nc cc] 31)) (one_act s qa na ca qb nb cb qc nc cc HI.out (HY1.out.on hb2) (HY2.out.on hb2) (HY3.out.on hb2))
    have s0 := sb 0 _ rfl
    have s1 := sb 1 _ rfl
    have s2 := sb 2 _ rfl
    have s3 := sb 3 _ rfl
    have s4 := sb 4 _ rfl
    go_wp2_with fail
    refine con.mono ?_
    rintro e w4 ⟨rfl, hb4⟩
    replace sb := Box.on (Box.on sb hb) hb4
    replace hb2 := (hb2.trans (hb.mono hb2.size)).trans (hb4.mono (hb2.trans (hb.mono hb2.size)).size)
    clear con hb hb4 s0 s1 s2 s3 s4
    cases hfs : fewB [s] with
    | false =>
      clear hfs sb
      have con := Jar.lives_any w4 (HG.out.on hb2)
      go_wp2_with fail
      refine con.mono ?_
      rintro e w9 ⟨rfl, hb3⟩
      go_wp2
      go_ret
      exact ⟨rfl, hb2.trans (hb3.mono hb2.size)⟩
    | true =>
      obtain ⟨f1, f2, f3⟩ := few_fit hfs (List.mem_singleton.2 rfl)
      have g1 := HY1.out.at.1
      have g3 := HY3.out.at.1
      have con := UParse_any qa na ca s.at_ w4 (HY1.out.on hb2) (by omega) (HG.out.on hb2)
      have HU1 := Lib.hid (fun u hu => (show Url.Ok u ∧ (textU u).length ≤ 4096 from ⟨Url.parse_ok s.at_ u hu, by have := Url.text_len _ u hu; omega⟩))
      have HC1 := Lib.hid (fun c hc => (show Ck.Ok c ∧ Small 4096 c ∧ parseC (textC c) = .inr c from ⟨Ck.parse_ok s.set c hc, small_le (Ck.parse_small _ c hc) (by omega), Ck.parse_back s.set c (by omega) hc⟩))
      have HCE := Lib.hid (fun k hk => (Ck.parse_err s.set k (by omega) hk))
      have HNC := Lib.hid (show nc ≤ 300 by omega)
      have s2 := sb 2 _ rfl
      generalize parseU s.at_ = R1 at *
      clear hfs f1 f2 f3 g1 g3
      go_wp2_with fail
      refine con.mono ?_
      rintro e X1 ⟨r0, m0, k0, r1, m1, k1, pp, r3, m3, k3, r4, m4, k4, r5, m5, k5, hq, hf, rfl, hU, hm, hb⟩
      replace hb2 := hb2.trans (hb.mono hb2.size)
      replace sb := Box.on sb hb
      clear con hb s2
      obtain ⟨bu, hbu⟩ : ∃ b, X1.heap.size = b := ⟨_, rfl⟩
      obtain ⟨X2, hX2⟩ : ∃ Z, X1.alloc (.cells #[.slice r0 m0 k0, .slice r1 m1 k1, .int .i64 pp, .slice r3 m3 k3, .slice r4 m4 k4, .slice r5 m5 k5, .bool hq, .bool hf] 33) = Z := ⟨_, rfl⟩
      have hb : Below X1.heap.size X1 X2 := hX2 ▸ below_alloc _
      have ub : Box bu #[.slice r0 m0 k0, .slice r1 m1 k1, .int .i64 pp, .slice r3 m3 k3, .slice r4 m4 k4, .slice r5 m5 k5, .bool hq, .bool hf] X2 := hX2 ▸ hbu ▸ Box.new X1 _ _
      replace hb2 := hb2.trans (hb.mono hb2.size)
      replace hU := hU.on hb
      replace sb := Box.on sb hb
      have con := Ck.Parse_any qc nc cc s.set X2 (HY3.out.on hb2) (by have := HNC.out; omega) (HG.out.on hb2)
      have s4 := sb 4 _ rfl
      rw [← hX2] at s4
      have HX2 := Lib.hid hX2
      have HBU := Lib.hid hbu
      clear hb hX2 hbu
      generalize parseC s.set = R2 at *
      go_wp2_with fail
      rw [HX2.out, HBU.out]
      refine con.mono ?_
      rintro e X3 ⟨v, rfl, hC, hb⟩
      replace hb2 := hb2.trans (hb.mono hb2.size)
      replace hU := hU.on hb
      replace sb := Box.on sb hb
      replace ub := Box.on ub hb
      clear con hb HX2 HBU s4
      obtain ⟨q4, n4, c4, q5, n5, c5, q6, n6, c6, rfl, hc1, hc2, hc3⟩ := id hC
      have HN6 := Lib.hid hc3.at.1
      obtain ⟨bc, hbc⟩ : ∃ b, X3.heap.size = b := ⟨_, rfl⟩
      obtain ⟨X4, hX4⟩ : ∃ Z, X3.alloc (.cells #[.slice q4 n4 c4, .slice q5 n5 c5, .slice q6 n6 c6, .string ⟨(ckV R2).dom.toArray⟩, .int .i64 (ckV R2).age, .bool (ckV R2).secure] 42) = Z := ⟨_, rfl⟩
      have hb : Below X3.heap.size X3 X4 := hX4 ▸ below_alloc _
      have cb' : Box bc #[.slice q4 n4 c4, .slice q5 n5 c5, .slice q6 n6 c6, .string ⟨(ckV R2).dom.toArray⟩, .int .i64 (ckV R2).age, .bool (ckV R2).secure] X4 := hX4 ▸ hbc ▸ Box.new X3 _ _
      replace hb2 := hb2.trans (hb.mono hb2.size)
      replace hU := hU.on hb
      replace hC := hC.on hb
      replace sb := Box.on sb hb
      replace ub := Box.on ub hb
      have HX4 := Lib.hid hX4
      have HBC := Lib.hid hbc
      clear hb hX4 hbc hc1 hc2 hc3
      cases R1 with
      | inl m1 =>
        have d1 : (m1 != 0) = true := by simpa using hm m1 rfl
        clear hm hU hC sb ub cb'
        simp only [urlE] at *
        go_wp2
        rw [HX4.out]
        go_ret
        exact ⟨rfl, hb2⟩
      | inr u =>
        cases R2 with
        | inl m2 =>
          obtain rfl := HCE.out m2 rfl
          clear hm hU hC sb ub cb'
          simp only [urlE, ckE] at *
          go_wp2
          rw [HX4.out]
          go_ret
          exact ⟨rfl, hb2⟩
        | inr c =>
          obtain ⟨hu1, hu2⟩ := HU1.out u rfl
          obtain ⟨ho1, ho2, ho3⟩ := HC1.out c rfl
          have HUO := Lib.hid (show OkZ u ∧ Url.Ok u ∧ (textU u).length ≤ 4096 from ⟨.inr ⟨hu1, hu2⟩, hu1, hu2⟩)
          have HCO := Lib.hid (show Ck.Ok c ∧ Small 4096 c ∧ parseC (textC c) = .inr c from ⟨ho1, ho2, ho3⟩)
          simp only [urlE, ckE, urlV, ckV] at *
          have HNS := Lib.hid HI.out.1
          have s1 := sb 1 _ rfl
          have p2 := cb' 2 _ rfl
          rw [← HX4.out] at s1 p2
          have hn6 : c.path.length = n6 := HN6.out
          clear hu1 hu2 ho1 ho2 ho3 hm HU1 HC1 HCE HN6
          by_cases hp : 0 < n6
          · have d1 : decide ((0 : Int) < (n6 : Int)) = true := by simp; omega
            have d0 : ¬ n6 = 0 := by omega
            clear hU hC sb ub cb' hn6
            go_wp2
            rw [HX4.out]
            go_ret
            exact ⟨rfl, hb2⟩
          have d1 : decide ((0 : Int) < (n6 : Int)) = false := by simp; omega
          obtain rfl : n6 = 0 := by omega
          have HPN := Lib.hid (List.eq_nil_of_length_eq_zero hn6)
          clear hp hn6
          by_cases h1 : s.now < 0
          · have d2 : decide (s.now < 0) = true := by simpa using h1
            clear hU hC sb ub cb' h1
            go_wp2
            rw [HX4.out]
            go_ret
            exact ⟨rfl, hb2⟩
          have d2 : decide (s.now < 0) = false := by simpa using h1
          by_cases h2 : 1073741824 < s.now
          · have d3 : decide (1073741824 < s.now) = true := by simpa using h2
            clear hU hC sb ub cb' h1 h2
            go_wp2
            rw [HX4.out]
            go_ret
            exact ⟨rfl, hb2⟩
          have d3 : decide (1073741824 < s.now) = false := by simpa using h2
          have HNW := Lib.hid (show 0 ≤ s.now ∧ s.now ≤ 1073741824 by omega)
          have con := New_any X4
          clear h1 h2
          go_wp2_with fail
          rw [HX4.out, HBC.out]
          refine con.mono ?_
          rintro e X5 ⟨M1, p1, rfl, hJ1, hM1, B5⟩
          clear con HX4 HBC s1 p2 d1 d2 d3
          have HM1 := Lib.hid hM1
          have HU := Lib.hid hU
          have HC := Lib.hid hC
          have HSB := Lib.hid sb
          have HUB := Lib.hid ub
          have HCB := Lib.hid cb'
          have HA := Lib.hid hb2
          have HG4 := Lib.hid (show GlB X4.heap.size X4 from Gl.glb (HG.out.on hb2))
          have HNL := HLA.out.1
          have hn60 := few_len HFW.out
          have HLT := Lib.hid hlat
          clear hM1 hU hC sb ub cb' hb2 hlat
          go_wp2
          go_loopw [69] (fun i wr => ∃ (k : Nat) (M1 : Nat → Prop) (l1 : List En), k ≤ len0 ∧ i = .int .i64 k ∧ JarIn M1 (.pointer (some p1)) l1 wr ∧ Hid (∀ b, M1 b → X4.heap.size ≤ b) ∧ Hid (∀ e ∈ l1, PE s.now e) ∧ Hid (l1.length ≤ k) ∧ Below X4.heap.size X4 wr) (fun i _ => len0 - (intOf i).toNat)
          case atStart => exact ⟨0, M1, [], Nat.zero_le _, rfl, hJ1, HM1, Lib.hid (fun e he => by cases he), Lib.hid (Nat.le_refl _), B5⟩
          case round =>
            obtain ⟨k, M1, l1, hk, rfl, hJ1, HM1, HPE, HLL, hB⟩ := hrel
            by_cases hlt : k < len0
            · obtain ⟨x, hx⟩ : ∃ x, L[k]? = some x := ⟨_, List.getElem?_eq_getElem (by omega)⟩
              have A := HA.out.trans (hB.mono HA.out.size)
              obtain ⟨g, o, rfl, hg, hc⟩ := (HLA.out.on A).2 (by omega)
              obtain ⟨q1, n1, c1, q2, n2, c2, q3, n3, c3, j0, j1, j2, j3, j4, hi, y1, y2, y3⟩ := hc k x hx
              obtain ⟨t1, t2, t3⟩ := few_fit HFW.out (List.mem_of_getElem? hx)
              obtain ⟨nw, hw0, hw1, hw2⟩ := num_of x.now s.now HNW.out.1 HNW.out.2
              have s1 := (Box.below HSB.out hB (World.block_lt_of_cell? X4 _ (HSB.out 0 _ rfl))) 1 _ rfl
              have hbs1 := World.block_lt_of_cell? wr _ s1
              obtain ⟨hs0, hs1⟩ := HNW.out
              have hne : (s.now + 1 == 0) = false := by simp; omega
              have hne2 : ¬ s.now + 1 = 0 := by omega
              have hb : Below wr.heap.size wr (wr.alloc (.cells #[.int .i64 x.kind, .int .i64 nw, .slice q1 n1 c1, .slice q2 n2 c2, .slice q3 n3 c3] 31)) := below_alloc _
              replace hJ1 := keep_own hJ1 hb
              have hB1 := hB.trans (hb.mono hB.size)
              have con := put_any M1 p1 l1 ⟨x.kind, nw, x.at_, x.for_, x.set⟩ q1 n1 c1 q2 n2 c2 q3 n3 c3 _ hJ1 (y1.on hb) (y3.on hb) ⟨show -9223372036854775808 ≤ nw by omega, show nw ≤ 9223372036854775807 by omega⟩ t1 t3 X4.heap.size HM1.out hB1.size (HG4.out.on hB1)
              have HPN2 := Lib.hid (act_pe s.now l1 ⟨x.kind, nw, x.at_, x.for_, x.set⟩ HPE.out hw1 t3)
              have HL2 := Lib.hid (show (actN l1 ⟨x.kind, nw, x.at_, x.for_, x.set⟩).length ≤ k + 1 by have := act_len l1 ⟨x.kind, nw, x.at_, x.for_, x.set⟩; have := HLL.out; omega)
              clear hc hg A hi hx y1 y2 y3 t1 t2 t3 hJ1 hb
              go_wp2_with fail
              refine con.mono ?_
              rintro e Y2 ⟨N1, rfl, hJ1, hN1, hk2⟩
              have HN1 := Lib.hid (show ∀ b, N1 b → X4.heap.size ≤ b from fun b h => by
                rcases hN1 b h with h | h
                · exact HM1.out b h
                · exact Nat.le_trans hB1.size h)
              have hB2 := hB1.trans (Keep.below (hk2.mono fun b _ (h : b < X4.heap.size) hm => by have := HM1.out b hm; omega) hB1.size)
              clear con hN1 hk2 hB1 hB HM1 HPE j0 j1 j2 j3 j4 hw0 hw1 hw2 s1 hbs1 hne hne2
              go_wp2
              go_roundw
              case rel => exact ⟨k + 1, N1, _, by omega, by go_num, hJ1, HN1, HPN2, HL2, hB2⟩
              case measure => simp [intOf]; omega
            · obtain rfl : k = len0 := by omega
              have sb := Box.below HSB.out hB (World.block_lt_of_cell? X4 _ (HSB.out 0 _ rfl))
              have ub := Box.below HUB.out hB (World.block_lt_of_cell? X4 _ (HUB.out 0 _ rfl))
              have cb' := Box.below HCB.out hB (World.block_lt_of_cell? X4 _ (HCB.out 0 _ rfl))
              have hU := HU.out.on hB
              have hC := HC.out.on hB
              have con := Set_any M1 p1 l1 _ _ u c s.now wr hJ1 hU HUO.out.2.1 HUO.out.2.2 hC HCO.out.1 HCO.out.2.1 HNS.out X4.heap.size HM1.out (HG4.out.on hB)
              have hse : setE u c s.now = (if mayB c u.host u.scheme = true then 0 else 17) := by
                unfold setE; rw [if_pos ⟨HNW.out.1, by have := HNW.out.2; omega⟩]
              have hsn : setN l1 u c s.now = setJ l1 u c s.now := by
                unfold setN; rw [if_pos ⟨HNW.out.1, by have := HNW.out.2; omega⟩]
              rw [hse, hsn] at con
              have HLT2 := Lib.hid (put_len l1 u c s.now)
              have hOf := hJ1.off
              clear hU hC hse hsn
              have u0_ := ub 0 _ rfl
              have u1_ := ub 1 _ rfl
              have u2_ := ub 2 _ rfl
              have u3_ := ub 3 _ rfl
              have u4_ := ub 4 _ rfl
              have u5_ := ub 5 _ rfl
              have u6_ := ub 6 _ rfl
              have u7_ := ub 7 _ rfl
              have v0_ := cb' 0 _ rfl
              have v1_ := cb' 1 _ rfl
              have v2_ := cb' 2 _ rfl
              have v3_ := cb' 3 _ rfl
              have v4_ := cb' 4 _ rfl
              have v5_ := cb' 5 _ rfl
              have s1_ := sb 1 _ rfl
              go_wp2_with fail
              refine con.mono ?_
              rintro e Y1 ⟨M2, rfl, hJ2, hM2, hk⟩
              replace hB := hB.trans (Keep.below (hk.mono fun b _ (h : b < X4.heap.size) hm => by have := HM1.out b hm; omega) hB.size)
              clear con hM2 hk hJ1 hOf sb ub cb' u0_ u1_ u2_ u3_ u4_ u5_ u6_ u7_ v0_ v1_ v2_ v3_ v4_ v5_ s1_
              by_cases hmay : mayB c u.host u.scheme = true
              · have hv : (if mayB c u.host u.scheme = true then (0 : Int) else 17) = 0 := if_pos hmay
                rw [hv]
                have HMY := Lib.hid hmay
                clear hv hmay
                obtain ⟨nl, hnl0, hnl1, hnl2⟩ := num_at a2
                have HNL0 := Lib.hid (show 0 ≤ nl ∧ nl < 2147483648 from ⟨hnl0, hnl1⟩)
                have HPE2 := Lib.hid (show ∀ e ∈ setJ l1 u c s.now, PE s.now e from fun e he => by
                  rcases mem_set l1 u c s.now e he with h | rfl
                  · exact HPE.out e h
                  · exact ⟨Int.le_refl _, HCO.out.2.2⟩)
                have HFL := Lib.hid (show ((forJ (keyU u) u (s.now + nl) (setJ l1 u c s.now)).map En.c).length ≤ 1048576 by
                  rw [List.length_map]
                  have h1 := for_len (keyU u) u (s.now + nl) (setJ l1 u c s.now)
                  have h2 := HLT2.out
                  have h3 := HLL.out
                  omega)
                have HTH := Lib.hid (fun zs hz => there_is l1 u c s.now nl zs hz HPN.out HUO.out.2.1 HMY.out HNL0.out.1 HPE.out HCO.out.2.2 HCO.out.1.age1)
                have HFO := Lib.hid (show ∀ y ∈ (forJ (keyU u) u (s.now + nl) (setJ l1 u c s.now)).map En.c, Ck.Ok y ∧ Small 4096 y from fun y hy => by
                  obtain ⟨e, he, rfl⟩ := List.mem_map.1 hy
                  exact pe_ok (HPE2.out e ((for_mem _ _ _ _ _).1 he).1))
                have hnw := HNW.out
                have hwr : IntKind.i64.wrap (s.now + nl) = s.now + nl := by simp [IntKind.wrap, IntKind.bits, IntKind.signed]; omega
                clear HPE HPE2 HLL HLT2 hnl1
                have ub := Box.below HUB.out hB (World.block_lt_of_cell? X4 _ (HUB.out 0 _ rfl))
                have sb := Box.below HSB.out hB (World.block_lt_of_cell? X4 _ (HSB.out 0 _ rfl))
                have hU := HU.out.on hB
                obtain ⟨Z5, hZ5⟩ : ∃ Z, Y1.drew = Z := ⟨_, rfl⟩
                have hb : Below Y1.heap.size Y1 Z5 := by rw [← hZ5]; exact (Below.refl _ _).drew
                replace hB := hB.trans (hb.mono hB.size)
                replace hJ2 := keep_own hJ2 hb
                replace ub := Box.on ub hb
                replace sb := Box.on sb hb
                replace hU := hU.on hb
                have HZ5 := Lib.hid hZ5
                obtain ⟨XS, hXS⟩ : ∃ X, (forJ (keyU u) u (s.now + nl) (setJ l1 u c s.now)).map En.c = X := ⟨_, rfl⟩
                simp only [hXS] at HFL HTH HFO
                have HXS := Lib.hid hXS
                clear hZ5 hb hXS
                go_wp2_with fail
                refine pregion_any (fun X => (Box bu #[.slice r0 m0 k0, .slice r1 m1 k1, .int .i64 pp, .slice r3 m3 k3, .slice r4 m4 k4, .slice r5 m5 k5, .bool hq, .bool hf] X ∧ Box bs #[.int .i64 s.kind, .int .i64 s.now, .slice qa na ca, .slice qb nb cb, .slice qc nc cc] X)) (by kernel_rfl) ?_
                rw [HZ5.out]
                refine wpAnyH_take (i := 0) (v := (.pointer (some p1))) rfl (by kernel_rfl) (by kernel_rfl) (by kernel_rfl) (fun _ _ _ h => h) (.inl ⟨by kernel_rfl, ?_⟩) ⟨ub, sb⟩ ?_
                · rintro w ⟨hv, ho⟩; go_simp
                refine plist #[true, false, false, false, false, false, false, false, false, false, false, false] (by kernel_rfl) ?_
                refine wpAnyH_take (i := 1) (v := (.agg #[.slice r0 m0 k0, .slice r1 m1 k1, .int .i64 pp, .slice r3 m3 k3, .slice r4 m4 k4, .slice r5 m5 k5, .bool hq, .bool hf])) rfl (by kernel_rfl) (by kernel_rfl) (by kernel_rfl) (fun _ _ _ h => h) (.inl ⟨by kernel_rfl, ?_⟩) ⟨ub, sb⟩ ?_
                · rintro w ⟨hv, ho⟩; have x0 := hv 0 _ rfl; have x1 := hv 1 _ rfl; have x2 := hv 2 _ rfl; have x3 := hv 3 _ rfl; have x4 := hv 4 _ rfl; have x5 := hv 5 _ rfl; have x6 := hv 6 _ rfl; have x7 := hv 7 _ rfl; go_simp <;> omega
                refine plist #[true, true, false, false, false, false, false, false, false, false, false, false] (by kernel_rfl) ?_
                refine wpAnyH_take (i := 3) (v := (.agg #[.slice r0 m0 k0, .slice r1 m1 k1, .int .i64 pp, .slice r3 m3 k3, .slice r4 m4 k4, .slice r5 m5 k5, .bool hq, .bool hf])) rfl (by kernel_rfl) (by kernel_rfl) (by kernel_rfl) (fun _ _ _ h => h) (.inl ⟨by kernel_rfl, ?_⟩) ⟨ub, sb⟩ ?_
                · rintro w ⟨hv, ho⟩; have x0 := hv 0 _ rfl; have x1 := hv 1 _ rfl; have x2 := hv 2 _ rfl; have x3 := hv 3 _ rfl; have x4 := hv 4 _ rfl; have x5 := hv 5 _ rfl; have x6 := hv 6 _ rfl; have x7 := hv 7 _ rfl; go_simp <;> omega
                refine plist #[true, true, false, true, false, false, false, false, false, false, false, false] (by kernel_rfl) ?_
                refine wpAnyH_take (i := 4) (v := (.pointer (some ⟨bs, 1, none⟩))) rfl (by kernel_rfl) (by kernel_rfl) (by kernel_rfl) (fun _ _ _ h => h) (.inl ⟨by kernel_rfl, ?_⟩) ⟨ub, sb⟩ ?_
                · rintro w ⟨hv, ho⟩; go_simp
                refine plist #[true, true, false, true, true, false, false, false, false, false, false, false] (by kernel_rfl) ?_
                refine wpAnyH_take (i := 5) (v := (.int .i64 s.now)) rfl (by kernel_rfl) (by kernel_rfl) (by kernel_rfl) (fun _ _ _ h => h) (.inl ⟨by kernel_rfl, ?_⟩) ⟨ub, sb⟩ ?_
                · rintro w ⟨hv, ho⟩; have h' := ho 1 _ rfl; go_simp
                refine plist #[true, true, false, true, true, true, false, false, false, false, false, false] (by kernel_rfl) ?_
                refine wpAnyH_take (i := 6) (v := (.int .i64 nl)) rfl (by kernel_rfl) (by kernel_rfl) (by kernel_rfl) (fun _ _ _ h => h) (.inl ⟨by kernel_rfl, ?_⟩) ⟨ub, sb⟩ ?_
                · rintro w ⟨hv, ho⟩; go_simp
                refine plist #[true, true, false, true, true, true, true, false, false, false, false, false] (by kernel_rfl) ?_
                refine wpAnyH_take (i := 7) (v := (.int .i64 (s.now + nl))) rfl (by kernel_rfl) (by kernel_rfl) (by kernel_rfl) (fun _ _ _ h => h) (.inl ⟨by kernel_rfl, ?_⟩) ⟨ub, sb⟩ ?_
                · rintro w ⟨hv, ho⟩; go_simp <;> exact hwr
                refine plist #[true, true, false, true, true, true, true, true, false, false, false, false] (by kernel_rfl) ?_
                refine wpAnyH_take (i := 11) (v := (.int .i64 0)) rfl (by kernel_rfl) (by kernel_rfl) (by kernel_rfl) (fun _ _ _ h => h) (.inl ⟨by kernel_rfl, ?_⟩) ⟨ub, sb⟩ ?_
                · rintro w ⟨hv, ho⟩; go_simp
                refine plist #[true, true, false, true, true, true, true, true, false, false, false, true] (by kernel_rfl) ?_
                have con := Org.Of_any u _ _ hU
                refine pone 2 (by kernel_rfl) rfl fun K hK => ?_
                go_simp
                refine con.mono ?_
                rintro e Za ⟨rfl, hb⟩
                replace hB := hB.trans (hb.mono hB.size)
                replace hJ2 := keep_own hJ2 hb
                replace ub := Box.on ub hb
                replace sb := Box.on sb hb
                replace hU := hU.on hb
                clear con hb 
                refine hK _ _ ⟨ub, sb⟩ ?_
                clear hK K
                refine plist #[true, true, true, true, true, true, true, true, false, false, false, true] (by kernel_rfl) ?_
                have con := For_any M2 p1 (setJ l1 u c s.now) u u _ (s.now + nl) _ hJ2 HUO.out.1 hU HUO.out.1 (by have := HNL0.out; omega) (HG4.out.on hB).gl
                rw [HXS.out] at con
                refine pone 8 (by kernel_rfl) rfl fun K hK => ?_
                go_simp
                refine con.mono ?_
                rintro e Zb ⟨gf, lb, RB, rfl, heg, hit, hRB, hb⟩
                replace hB := hB.trans (hb.mono hB.size)
                replace hJ2 := keep_own hJ2 hb
                replace ub := Box.on ub hb
                replace sb := Box.on sb hb
                replace hU := hU.on hb
                clear con hb 
                refine hK _ _ ⟨ub, sb⟩ ?_
                clear hK K
                refine plist #[true, true, true, true, true, true, true, true, true, false, false, true] (by kernel_rfl) ?_
                have con := all_any gf lb _ RB _ heg hit hRB HFL.out
                refine pone 9 (by kernel_rfl) rfl fun K hK => ?_
                go_simp
                refine con.mono ?_
                rintro e Zc ⟨v, zs, rfl, hzs, hrow, hcz, hb⟩
                obtain ⟨qz, cz, rfl, hcs⟩ := cks_open hrow (by rw [← hzs, List.length_map]) hcz
                replace hB := hB.trans (hb.mono hB.size)
                replace hJ2 := keep_own hJ2 hb
                replace ub := Box.on ub hb
                replace sb := Box.on sb hb
                replace hU := hU.on hb
                clear con hb 
                refine hK _ _ ⟨ub, sb⟩ ?_
                clear hK K
                refine plist #[true, true, true, true, true, true, true, true, true, true, false, true] (by kernel_rfl) ?_
                refine pone 10 (by kernel_rfl) rfl fun K hK => ?_
                go_simp
                refine hK _ _ ⟨ub, sb⟩ ?_
                clear hK K
                refine pdone (by kernel_rfl) ?_ _
                have HTZ := Lib.hid (HTH.out zs hzs)
                have HFZ := Lib.hid (show ∀ z ∈ zs, Ck.Ok z.2 ∧ Small 4096 z.2 from fun z hz => HFO.out z.2 (hzs ▸ List.mem_map.2 ⟨z, hz, rfl⟩))
                have hzl : zs.length = XS.length := by rw [← hzs, List.length_map]
                have hzn : zs.length ≤ 1048576 := hzl ▸ HFL.out
                rw [← hzl]
                generalize hn : zs.length = n at *
                have HCS := Lib.hid hcs
                have HBZ := Lib.hid hB
                have HZN := Lib.hid hn
                clear hit heg hRB hrow hcz hzs hzl HTH HFO HFL hcs hB hJ2 ub sb hU hn
                go_wp2
                go_loopw [15, 112] (fun t i wr => ∃ k : Nat, k ≤ n ∧ i = .int .i64 k ∧ Hid (t = .bool ((zs.take k).any fun z => decide (textC z.2 = textC c))) ∧ Below Zc.heap.size Zc wr) (fun _ i _ => n - (intOf i).toNat)
                case atStart => exact ⟨0, Nat.zero_le _, rfl, Lib.hid rfl, Below.refl _ _⟩
                case round =>
                  obtain ⟨k, hk, rfl, HTK, hK⟩ := hrel
                  have ht := HTK.out
                  subst ht
                  have hB := HBZ.out.trans (hK.mono HBZ.out.size)
                  by_cases hlt : k < n
                  · obtain ⟨⟨⟨⟨⟨qx, nx, cx⟩, ⟨qy, ny, cy⟩⟩, ⟨qw, nw', cw⟩⟩, y⟩, hz⟩ : ∃ z, zs[k]? = some z := ⟨_, List.getElem?_eq_getElem (by have := HZN.out; omega)⟩
                    have hcs := HCS.out.on hK
                    obtain ⟨g, o, rfl, hg, hc⟩ := hcs.2 (by have := HZN.out; omega)
                    obtain ⟨e0, e1, e2, e3, e4, e5⟩ := hc k _ hz
                    have hzm := List.mem_of_getElem? hz
                    have hCz := (hcs.1 _ hzm).is
                    obtain ⟨hyo, hys⟩ := HFZ.out _ hzm
                    have HTA := Lib.hid (take_any zs k _ (fun z => decide (textC z.2 = textC c)) hz)
                    simp only [ckRow, vC] at e0 e1 e2 e3 e4 e5 hCz hyo hys HTA
                    obtain ⟨by', hby⟩ : ∃ b, wr.heap.size = b := ⟨_, rfl⟩
                    obtain ⟨Y2, hY2⟩ : ∃ Z, (wr.alloc (.cells #[.slice qx nx cx, .slice qy ny cy, .slice qw nw' cw, .string ⟨y.dom.toArray⟩, .int .i64 y.age, .bool y.secure] 42)).drew = Z := ⟨_, rfl⟩
                    have hb : Below wr.heap.size wr Y2 := by rw [← hY2]; exact (below_alloc _).drew
                    have yb : Box by' #[.slice qx nx cx, .slice qy ny cy, .slice qw nw' cw, .string ⟨y.dom.toArray⟩, .int .i64 y.age, .bool y.secure] Y2 := by rw [← hY2, ← hby]; exact Box.drew (Box.new wr _ _)
                    have hK2 := hK.trans (hb.mono hK.size)
                    have hB2 := hB.trans (hb.mono hB.size)
                    have hCy := hCz.on hb
                    have cb := Box.below HCB.out hB2 (World.block_lt_of_cell? X4 _ (HCB.out 0 _ rfl))
                    have hC := HC.out.on hB2
                    have HY2 := Lib.hid hY2
                    have HBY := Lib.hid hby
                    have HYO := Lib.hid (show Ck.Ok y ∧ Small 4096 y from ⟨hyo, hys⟩)
                    generalize hT : (zs.take k).any (fun z => decide (textC z.2 = textC c)) = t at *
                    clear hcs hg hc hz hzm hCz hyo hys hY2 hby hb hK hB hT
                    cases t with
                    | true =>
                      have HTT := Lib.hid (show (zs.take (k + 1)).any (fun z => decide (textC z.2 = textC c)) = true by rw [HTA.out]; rfl)
                      go_wp2_with fail
                      refine pregion_any (fun X => True) (by kernel_rfl) ?_
                      rw [HY2.out, HBY.out]
                      refine wpAnyH_take (i := 0) (v := (.bool true)) rfl (by kernel_rfl) (by kernel_rfl) (by kernel_rfl) (fun _ _ _ h => h) (.inl ⟨by kernel_rfl, ?_⟩) trivial ?_
                      · rintro w -; go_simp
                      refine plist #[true, false, false, false, false, false, false, false, false, false, false] (by kernel_rfl) ?_
                      refine wpAnyH_take (i := 1) (v := (.bool true)) rfl (by kernel_rfl) (by kernel_rfl) (by kernel_rfl) (fun _ _ _ h => h) (.inl ⟨by kernel_rfl, ?_⟩) trivial ?_
                      · rintro w -; go_simp
                      refine plist #[true, true, false, false, false, false, false, false, false, false, false] (by kernel_rfl) ?_
                      refine wpAnyH_take (i := 2) (v := (undef)) rfl (by kernel_rfl) (by kernel_rfl) (by kernel_rfl) (fun _ _ _ h => h) (.inr ⟨by kernel_rfl, rfl⟩) trivial ?_
                      refine plist #[true, true, true, false, false, false, false, false, false, false, false] (by kernel_rfl) ?_
                      refine wpAnyH_take (i := 5) (v := (undef)) rfl (by kernel_rfl) (by kernel_rfl) (by kernel_rfl) (fun _ _ _ h => h) (.inr ⟨by kernel_rfl, rfl⟩) trivial ?_
                      refine plist #[true, true, true, false, false, true, false, false, false, false, false] (by kernel_rfl) ?_
                      refine pone 3 (by kernel_rfl) rfl fun K hK => ?_
                      go_simp
                      refine hK _ _ trivial ?_
                      clear hK K
                      refine plist #[true, true, true, true, false, true, false, false, false, false, false] (by kernel_rfl) ?_
                      refine wpAnyH_take (i := 4) (v := (undef)) rfl (by kernel_rfl) (by kernel_rfl) (by kernel_rfl) (fun _ _ _ h => h) (.inr ⟨by kernel_rfl, rfl⟩) trivial ?_
                      refine plist #[true, true, true, true, true, true, false, false, false, false, false] (by kernel_rfl) ?_
                      refine pone 6 (by kernel_rfl) rfl fun K hK => ?_
                      go_simp
                      refine hK _ _ trivial ?_
                      clear hK K
                      refine plist #[true, true, true, true, true, true, true, false, false, false, false] (by kernel_rfl) ?_
                      refine wpAnyH_take (i := 7) (v := (undef)) rfl (by kernel_rfl) (by kernel_rfl) (by kernel_rfl) (fun _ _ _ h => h) (.inr ⟨by kernel_rfl, rfl⟩) trivial ?_
                      refine plist #[true, true, true, true, true, true, true, true, false, false, false] (by kernel_rfl) ?_
                      refine wpAnyH_take (i := 8) (v := (undef)) rfl (by kernel_rfl) (by kernel_rfl) (by kernel_rfl) (fun _ _ _ h => h) (.inr ⟨by kernel_rfl, rfl⟩) trivial ?_
                      refine plist #[true, true, true, true, true, true, true, true, true, false, false] (by kernel_rfl) ?_
                      refine wpAnyH_take (i := 9) (v := (.bool true)) rfl (by kernel_rfl) (by kernel_rfl) (by kernel_rfl) (fun _ _ _ h => h) (.inl ⟨by kernel_rfl, ?_⟩) trivial ?_
                      · rintro w -; go_simp
                      refine plist #[true, true, true, true, true, true, true, true, true, true, false] (by kernel_rfl) ?_
                      refine pone 10 (by kernel_rfl) rfl fun K hK => ?_
                      go_simp
                      refine hK _ _ trivial ?_
                      clear hK K
                      refine pdone (by kernel_rfl) ?_ _
                      go_wp2
                      go_roundw
                      case rel => exact ⟨k + 1, by omega, by go_num, Lib.hid (by rw [HTT.out]), hK2⟩
                      case measure => simp [intOf]; omega
                    | false =>
                      have HTT := Lib.hid (show (zs.take (k + 1)).any (fun z => decide (textC z.2 = textC c)) = decide (textC y = textC c) by rw [HTA.out]; rfl)
                      have HTX := Lib.hid (fun W h hg => Text_any (.agg #[.slice qx nx cx, .slice qy ny cy, .slice qw nw' cw, .string ⟨y.dom.toArray⟩, .int .i64 y.age, .bool y.secure]) y W h HYO.out.1 HYO.out.2 hg)
                      have HTC := Lib.hid (fun W h hg => Text_any (.agg #[.slice q4 n4 c4, .slice q5 n5 c5, .slice q6 0 c6, .string ⟨c.dom.toArray⟩, .int .i64 c.age, .bool c.secure]) c W h HCO.out.1 HCO.out.2.1 hg)
                      obtain ⟨TY, hTY⟩ : ∃ t, textC y = t := ⟨_, rfl⟩
                      obtain ⟨TC, hTC⟩ : ∃ t, textC c = t := ⟨_, rfl⟩
                      obtain ⟨tb, htb⟩ : ∃ b, decide (TY = TC) = b := ⟨_, rfl⟩
                      have HTT3 := Lib.hid (HTT.out.trans (show decide (textC y = textC c) = tb by rw [hTY, hTC]; exact htb))
                      have HHE := Lib.hid (show (TY == TC) = tb by rw [← htb, Bool.eq_iff_iff, beq_iff_eq, decide_eq_true_iff])
                      simp only [hTY] at HTX
                      simp only [hTC] at HTC
                      clear HTT HTA htb hTY hTC
                      go_wp2_with fail
                      refine pregion_any (fun X => (Box by' #[.slice qx nx cx, .slice qy ny cy, .slice qw nw' cw, .string ⟨y.dom.toArray⟩, .int .i64 y.age, .bool y.secure] X ∧ Box bc #[.slice q4 n4 c4, .slice q5 n5 c5, .slice q6 0 c6, .string ⟨c.dom.toArray⟩, .int .i64 c.age, .bool c.secure] X)) (by kernel_rfl) ?_
                      rw [HY2.out, HBY.out]
                      refine wpAnyH_take (i := 0) (v := (.bool false)) rfl (by kernel_rfl) (by kernel_rfl) (by kernel_rfl) (fun _ _ _ h => h) (.inl ⟨by kernel_rfl, ?_⟩) ⟨yb, cb⟩ ?_
                      · rintro w ⟨hy, hc⟩; go_simp
                      refine plist #[true, false, false, false, false, false, false, false, false, false, false] (by kernel_rfl) ?_
                      refine wpAnyH_take (i := 1) (v := (.bool false)) rfl (by kernel_rfl) (by kernel_rfl) (by kernel_rfl) (fun _ _ _ h => h) (.inl ⟨by kernel_rfl, ?_⟩) ⟨yb, cb⟩ ?_
                      · rintro w ⟨hy, hc⟩; go_simp
                      refine plist #[true, true, false, false, false, false, false, false, false, false, false] (by kernel_rfl) ?_
                      refine wpAnyH_take (i := 2) (v := (.agg #[.slice qx nx cx, .slice qy ny cy, .slice qw nw' cw, .string ⟨y.dom.toArray⟩, .int .i64 y.age, .bool y.secure])) rfl (by kernel_rfl) (by kernel_rfl) (by kernel_rfl) (fun _ _ _ h => h) (.inl ⟨by kernel_rfl, ?_⟩) ⟨yb, cb⟩ ?_
                      · rintro w ⟨hy, hc⟩; have x0 := hy 0 _ rfl; have x1 := hy 1 _ rfl; have x2 := hy 2 _ rfl; have x3 := hy 3 _ rfl; have x4 := hy 4 _ rfl; have x5 := hy 5 _ rfl; go_simp <;> omega
                      refine plist #[true, true, true, false, false, false, false, false, false, false, false] (by kernel_rfl) ?_
                      refine wpAnyH_take (i := 5) (v := (.agg #[.slice q4 n4 c4, .slice q5 n5 c5, .slice q6 0 c6, .string ⟨c.dom.toArray⟩, .int .i64 c.age, .bool c.secure])) rfl (by kernel_rfl) (by kernel_rfl) (by kernel_rfl) (fun _ _ _ h => h) (.inl ⟨by kernel_rfl, ?_⟩) ⟨yb, cb⟩ ?_
                      · rintro w ⟨hy, hc⟩; have x0 := hc 0 _ rfl; have x1 := hc 1 _ rfl; have x2 := hc 2 _ rfl; have x3 := hc 3 _ rfl; have x4 := hc 4 _ rfl; have x5 := hc 5 _ rfl; go_simp <;> omega
                      refine plist #[true, true, true, false, false, true, false, false, false, false, false] (by kernel_rfl) ?_
                      have con := HTX.out _ hCy (HG4.out.on hB2).gl
                      refine pone 3 (by kernel_rfl) rfl fun K hK => ?_
                      go_simp
                      refine con.mono ?_
                      rintro e Va ⟨ra, ma, da, rfl, TA, hb⟩
                      replace hB2 := hB2.trans (hb.mono hB2.size)
                      replace hK2 := hK2.trans (hb.mono hK2.size)
                      replace yb := Box.on yb hb
                      replace cb := Box.on cb hb
                      replace hC := hC.on hb
                      clear con hb hCy
                      refine hK _ _ ⟨yb, cb⟩ ?_
                      clear hK K
                      refine pmore (S' := fun X => (Box by' #[.slice qx nx cx, .slice qy ny cy, .slice qw nw' cw, .string ⟨y.dom.toArray⟩, .int .i64 y.age, .bool y.secure] X ∧ Box bc #[.slice q4 n4 c4, .slice q5 n5 c5, .slice q6 0 c6, .string ⟨c.dom.toArray⟩, .int .i64 c.age, .bool c.secure] X) ∧ By X (.slice ra ma da) TY) (fun _ h => h.1) ?_
                      refine plist #[true, true, true, true, false, true, false, false, false, false, false] (by kernel_rfl) ?_
                      refine wpAnyH_take (i := 4) (v := (.string ⟨TY.toArray⟩)) rfl (by kernel_rfl) (by kernel_rfl) (by kernel_rfl) (fun _ _ _ h => h) (.inl ⟨by kernel_rfl, ?_⟩) ⟨⟨yb, cb⟩, TA⟩ ?_
                      · rintro w ⟨⟨hy, hc⟩, tA⟩; have hcv := conv_by tA; go_simp
                      refine plist #[true, true, true, true, true, true, false, false, false, false, false] (by kernel_rfl) ?_
                      have con := HTC.out _ hC (HG4.out.on hB2).gl
                      refine pone 6 (by kernel_rfl) rfl fun K hK => ?_
                      go_simp
                      refine con.mono ?_
                      rintro e Vb ⟨rb, mb, db, rfl, TB, hb⟩
                      replace hB2 := hB2.trans (hb.mono hB2.size)
                      replace hK2 := hK2.trans (hb.mono hK2.size)
                      replace yb := Box.on yb hb
                      replace cb := Box.on cb hb
                      replace hC := hC.on hb
                      replace TA := TA.on hb
                      clear con hb 
                      refine hK _ _ ⟨⟨yb, cb⟩, TA⟩ ?_
                      clear hK K
                      refine pmore (S' := fun X => ((Box by' #[.slice qx nx cx, .slice qy ny cy, .slice qw nw' cw, .string ⟨y.dom.toArray⟩, .int .i64 y.age, .bool y.secure] X ∧ Box bc #[.slice q4 n4 c4, .slice q5 n5 c5, .slice q6 0 c6, .string ⟨c.dom.toArray⟩, .int .i64 c.age, .bool c.secure] X) ∧ By X (.slice ra ma da) TY) ∧ By X (.slice rb mb db) TC) (fun _ h => h.1) ?_
                      refine plist #[true, true, true, true, true, true, true, false, false, false, false] (by kernel_rfl) ?_
                      refine wpAnyH_take (i := 7) (v := (.string ⟨TC.toArray⟩)) rfl (by kernel_rfl) (by kernel_rfl) (by kernel_rfl) (fun _ _ _ h => h) (.inl ⟨by kernel_rfl, ?_⟩) ⟨⟨⟨yb, cb⟩, TA⟩, TB⟩ ?_
                      · rintro w ⟨⟨⟨hy, hc⟩, tA⟩, tB⟩; have hcv := conv_by tB; go_simp
                      refine plist #[true, true, true, true, true, true, true, true, false, false, false] (by kernel_rfl) ?_
                      refine wpAnyH_take (i := 8) (v := (.bool tb)) rfl (by kernel_rfl) (by kernel_rfl) (by kernel_rfl) (fun _ _ _ h => h) (.inl ⟨by kernel_rfl, ?_⟩) ⟨⟨⟨yb, cb⟩, TA⟩, TB⟩ ?_
                      · rintro w ⟨⟨⟨hy, hc⟩, tA⟩, tB⟩; go_simp <;> exact HHE.out
                      refine plist #[true, true, true, true, true, true, true, true, true, false, false] (by kernel_rfl) ?_
                      refine wpAnyH_take (i := 9) (v := (.bool tb)) rfl (by kernel_rfl) (by kernel_rfl) (by kernel_rfl) (fun _ _ _ h => h) (.inl ⟨by kernel_rfl, ?_⟩) ⟨⟨⟨yb, cb⟩, TA⟩, TB⟩ ?_
                      · rintro w ⟨⟨⟨hy, hc⟩, tA⟩, tB⟩; go_simp
                      refine plist #[true, true, true, true, true, true, true, true, true, true, false] (by kernel_rfl) ?_
                      refine pone 10 (by kernel_rfl) rfl fun K hK => ?_
                      go_simp
                      refine hK _ _ ⟨⟨⟨yb, cb⟩, TA⟩, TB⟩ ?_
                      clear hK K
                      refine pdone (by kernel_rfl) ?_ _
                      go_wp2
                      go_roundw
                      case rel => exact ⟨k + 1, by omega, by go_num, Lib.hid (by rw [HTT3.out]), hK2⟩
                      case measure => simp [intOf]; omega
                  · obtain rfl : k = n := by omega
                    have hfin : (zs.take k).any (fun z => decide (textC z.2 = textC c)) = decide (c.age < 0 ∨ nl < c.age) := by
                      rw [← HZN.out, List.take_length]; exact HTZ.out
                    rw [hfin]
                    have cb := Box.below HCB.out hB (World.block_lt_of_cell? X4 _ (HCB.out 0 _ rfl))
                    have v4' := cb 4 _ rfl
                    have hend := HA.out.trans (hB.mono HA.out.size)
                    clear hfin cb
                    by_cases h1 : c.age < 0
                    · have e1 : decide (c.age < 0) = true := by simpa using h1
                      have e2 : decide (c.age < 0 ∨ nl < c.age) = true := decide_eq_true (.inl h1)
                      rw [e2]
                      clear e2 h1
                      go_wp2
                      go_ret
                      exact ⟨rfl, hend⟩
                    · have e1 : decide (c.age < 0) = false := by simpa using h1
                      by_cases h2 : nl < c.age
                      · have e3 : decide (nl < c.age) = true := by simpa using h2
                        have e2 : decide (c.age < 0 ∨ nl < c.age) = true := decide_eq_true (.inr h2)
                        rw [e2]
                        clear e2 h1 h2
                        go_wp2
                        go_ret
                        exact ⟨rfl, hend⟩
                      · have e3 : decide (nl < c.age) = false := by simpa using h2
                        have e2 : decide (c.age < 0 ∨ nl < c.age) = false := decide_eq_false (by omega)
                        rw [e2]
                        clear e2 h1 h2
                        go_wp2
                        go_ret
                        exact ⟨rfl, hend⟩
              · have hv : (if mayB c u.host u.scheme = true then (0 : Int) else 17) = 17 := if_neg hmay
                rw [hv]
                clear hv hmay hJ2
                go_wp2
                go_ret
                exact ⟨rfl, HA.out.trans (hB.mono HA.out.size)⟩

theorem proved : Rows.JarSetsCardSaid := card walk
end Go.Proofs.YtniehbjoogaccaaGreatDoor.jarSets
