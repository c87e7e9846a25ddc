/- ClauseBack: the law returns true at whatever input, and writes nothing that was there: its tied card. Conditions: none. -/
import Derived.Test.YtfgdikkefgjldaaGreatDoorBaseD
import Derived.Deep.DeepCutAuto
namespace Go.Proofs.YtfgdikkefgjldaaGreatDoor.clauseBack
open Go.RowKit Go.Shelf Url Org Frm Cls
attribute [local go_sem] Oper.semAt_some
set_option linter.unusedVariables false

theorem mk_of (s : ByteArray) : (⟨s.data.toList.toArray⟩ : ByteArray) = s := by cases s; simp
theorem row_strs {w : World} {a : Option Addr} {len cap : Nat} {zs : List ByteArray} (h : IsStrs w a len cap zs) : ∃ xs : List (List UInt8), SlIn encStr w a len xs ∧ (a = none → cap = 0) ∧ len ≤ cap := by
  rcases h with ⟨rfl, rfl, rfl, rfl⟩ | ⟨⟨b, o, s⟩, rfl, h1, h2, h3, h4, h5⟩
  · exact ⟨[], SlIn.nil _ _ _, fun _ => rfl, Nat.le_refl _⟩
  · refine ⟨(zs.take len).map fun s => s.data.toList, ⟨by simp; omega, fun hp => ?_⟩, (fun h => by cases h), h1⟩
    have hc0 := h4 0 (by omega)
    have hspot : s = none := by simpa [Addr.add] using World.cell?_spot hc0
    subst hspot
    rw [Go.WideShapes.add_plain] at hc0
    refine ⟨b, o, rfl, World.block_lt_of_cell? w _ hc0, fun i x hx => ?_⟩
    rw [List.getElem?_map, List.getElem?_take] at hx
    split at hx
    · cases hy : zs[i]? with
      | none => rw [hy] at hx; cases hx
      | some y =>
        rw [hy] at hx
        cases hx
        have hil := (List.getElem?_eq_some_iff.1 hy).1
        have := h4 i hil
        rw [Go.WideShapes.add_plain] at this
        rw [this, List.getD, hy]
        show some (Value.string y) = some (Value.string ⟨y.data.toList.toArray⟩)
        rw [mk_of]
    · cases hx

/-- A box that holds a clause. -/
def CB (b : Nat) (q : Option Addr) (n c : Nat) (x : List (List UInt8)) (X : World) : Prop := Boxed X b 28 (.slice q n c) ∧ SetIs encStr X (.agg #[.slice q n c]) x
theorem CB.on {b : Nat} {q : Option Addr} {n c : Nat} {x : List (List UInt8)} {X Y : World} (h : CB b q n c x X) (hb : Below X.heap.size X Y) : CB b q n c x Y :=
  ⟨(Keep.of_below hb).boxed h.1 h.1.lt, h.2.below hb⟩
theorem CB.new {q : Option Addr} {n c : Nat} {x : List (List UInt8)} {X : World} (h : SetIs encStr X (.agg #[.slice q n c]) x) : CB X.heap.size q n c x (X.alloc (.cells #[.slice q n c] 28)) :=
  ⟨Boxed.new _ _ _, h.below (below_alloc _)⟩
theorem CB.cell {b : Nat} {q : Option Addr} {n c : Nat} {x : List (List UInt8)} {X : World} (h : CB b q n c x X) : X.cell? ⟨b, 0, none⟩ = some (.slice q n c) := h.1.cell
theorem of_cases (l : List (List UInt8)) : errC (ofC l) ≠ 0 ∨ ∃ x, errC (ofC l) = 0 ∧ valC (ofC l) = x ∧ COk x ∧ ∀ p ∈ x, p ∈ l := by
  cases h : ofC l with
  | inl n =>
    refine .inl ?_
    unfold ofC at h
    split at h
    · split at h
      · cases h
      · cases h; decide
    · cases h; decide
  | inr x =>
    have := of_ok l x h
    exact .inr ⟨x, rfl, rfl, this.1, fun p hp => (this.2 p).1 hp⟩

set_option maxRecDepth 100000 in
set_option maxHeartbeats 16000000 in
theorem walk : Walks := by
  intro a0 len0 cap0 z0 a1 len1 cap1 z1 w w0 w1 hG
  obtain ⟨xs, ha, na, _⟩ := row_strs w0
  obtain ⟨ys, hb, nb, _⟩ := row_strs w1
  clear w0 w1
  have con := lives_any w hG
  have HG := Lib.hid hG
  have hfa := fun W (h : Below w.heap.size w W) => few_any a0 len0 cap0 xs W (ha.below h ha.lt)
  have hfb := fun W (h : Below w.heap.size w W) => few_any a1 len1 cap1 ys W (hb.below h hb.lt)
  clear hG
  cases h0 : fewB xs with
  | false =>
    rewrite [h0] at hfa
    clear hfb ha hb h0 na nb
    go_enter Tryz.func5, Tryz.ntmps5
    go_wp2_with fail
    refine con.mono ?_
    rintro e w2 ⟨rfl, hb2⟩
    clear con
    have con := lives_any w2 (HG.out.on hb2)
    go_wp2_with fail
    refine (hfa _ hb2).mono ?_
    rintro e w3 ⟨rfl, rfl⟩
    go_wp2_with fail
    refine con.mono ?_
    rintro e w4 ⟨rfl, hb4⟩
    go_wp2
    go_ret
    exact ⟨rfl, hb2.trans (hb4.mono hb2.size)⟩
  | true =>
  cases h1 : fewB ys with
  | false =>
    rewrite [h0] at hfa
    rewrite [h1] at hfb
    clear ha hb h0 h1 na nb
    go_enter Tryz.func5, Tryz.ntmps5
    go_wp2_with fail
    refine con.mono ?_
    rintro e w2 ⟨rfl, hb2⟩
    clear con
    have con := lives_any w2 (HG.out.on hb2)
    go_wp2_with fail
    refine (hfa _ hb2).mono ?_
    rintro e w3 ⟨rfl, rfl⟩
    go_wp2_with fail
    refine (hfb _ hb2).mono ?_
    rintro e w3 ⟨rfl, rfl⟩
    go_wp2_with fail
    refine con.mono ?_
    rintro e w4 ⟨rfl, hb4⟩
    go_wp2
    go_ret
    exact ⟨rfl, hb2.trans (hb4.mono hb2.size)⟩
  | true =>
  rewrite [h0] at hfa
  rewrite [h1] at hfb
  obtain ⟨f1, f2⟩ := few_of xs h0
  obtain ⟨g1, g2⟩ := few_of ys h1
  clear h0 h1
  have hl0 := ha.1
  have hl1 := hb.1
  go_enter Tryz.func5, Tryz.ntmps5
  go_wp2_with fail
  refine con.mono ?_
  rintro e X1 ⟨rfl, B_1⟩
  clear con
  go_wp2_with fail
  refine (hfa _ B_1).mono ?_
  rintro e w3 ⟨rfl, rfl⟩
  go_wp2_with fail
  refine (hfb _ B_1).mono ?_
  rintro e w3 ⟨rfl, rfl⟩
  have hb1 := hb.below B_1 hb.lt
  have con := Of_any a0 len0 cap0 xs X1 (ha.below B_1 ha.lt) na (by omega) (fun t ht => by have := f2 t ht; omega) (HG.out.on B_1)
  have HQ0 := Lib.hid (of_cases xs)
  generalize hr0 : ofC xs = r0 at con HQ0
  clear hfa hfb ha hb hr0
  go_wp2_with fail
  refine con.mono ?_
  rintro e X2 ⟨q5, n5, c5, rfl, hs5, hb⟩
  have B_2 := B_1.trans (hb.mono B_1.size)
  replace hb1 := hb1.below hb hb1.lt
  clear con hb
  obtain ⟨X3, hX3⟩ : ∃ Z, X2.alloc (.cells #[.slice q5 n5 c5] 28) = Z := ⟨_, rfl⟩
  obtain ⟨b5, hb5⟩ : ∃ b, X2.heap.size = b := ⟨_, rfl⟩
  have C5 : CB b5 q5 n5 c5 (valC r0) X3 := by rw [← hX3, ← hb5]; exact CB.new hs5
  have hb : Below X2.heap.size X2 X3 := by rw [← hX3]; exact below_alloc _
  have B_3 := B_2.trans (hb.mono B_2.size)
  replace hb1 := hb1.below hb hb1.lt
  have HX3 := Lib.hid hX3
  have HB5 := Lib.hid hb5
  have con := Of_any a1 len1 cap1 ys X3 hb1 nb (by omega) (fun t ht => by have := g2 t ht; omega) (HG.out.on B_3)
  have HQ1 := Lib.hid (of_cases ys)
  generalize hr1 : ofC ys = r1 at con HQ1
  clear hX3 hb5 hs5 hb hb1 hr1 B_1 B_2
  go_wp2_with fail
  rewrite [HB5.out, HX3.out]
  refine con.mono ?_
  rintro e X4 ⟨q7, n7, c7, rfl, hs7, hb⟩
  have B_4 := B_3.trans (hb.mono B_3.size)
  replace C5 := C5.on hb
  clear con hb HX3 HB5 B_3
  obtain ⟨X5, hX5⟩ : ∃ Z, X4.alloc (.cells #[.slice q7 n7 c7] 28) = Z := ⟨_, rfl⟩
  obtain ⟨b7, hb7⟩ : ∃ b, X4.heap.size = b := ⟨_, rfl⟩
  have hz5 : X5.heap.size = b7 + 1 := by rw [← hX5, ← hb7]; simp
  have C7 : CB b7 q7 n7 c7 (valC r1) X5 := by rw [← hX5, ← hb7]; exact CB.new hs7
  have hb : Below X4.heap.size X4 X5 := by rw [← hX5]; exact below_alloc _
  have B_5 := B_4.trans (hb.mono B_4.size)
  replace C5 := C5.on hb
  obtain ⟨X6, hX6⟩ : ∃ Z, X5.alloc (.cells #[.slice none 0 0] 28) = Z := ⟨_, rfl⟩
  have C9 : CB (b7 + 1) none 0 0 [] X6 := by rw [← hX6, ← hz5]; exact CB.new (set_nil _)
  have hb : Below X5.heap.size X5 X6 := by rw [← hX6]; exact below_alloc _
  have B_6 := B_5.trans (hb.mono B_5.size)
  replace C5 := C5.on hb
  replace C7 := C7.on hb
  have HX5 := Lib.hid hX5
  have HX6 := Lib.hid hX6
  have HB7 := Lib.hid hb7
  have e1 : (neverS == ([110, 101, 118, 101, 114] : List UInt8)) = true := by decide
  clear hX5 hX6 hb7 hs7 hb hz5 B_4 B_5
  generalize hm5 : errC r0 = m5 at *
  generalize hm7 : errC r1 = m7 at *
  clear hm5 hm7
  by_cases h5 : m5 ≠ 0
  · have e5 : ((m5 : Int) != 0) = true := by rw [bne_iff_ne]; exact h5
    have con := Text_any _ _ X6 C9.2 (by simp) (by decide)
    have x9 := C9.cell
    clear h5 HQ0 HQ1 C5 C7
    go_wp2_with fail
    rewrite [HB7.out, HX5.out, HX6.out]
    go_wp2_with fail
    refine con.mono ?_
    rintro e w3 ⟨rfl, hb3⟩
    clear con
    go_wp2
    go_ret
    exact ⟨(by first | rfl | exact e1 | (rw [e1]) | simp [e1]), B_6.trans (hb3.mono B_6.size)⟩
  obtain ⟨x, h5', hvx, okx, inx⟩ := HQ0.out.resolve_left h5
  subst h5'
  rewrite [hvx] at C5
  clear h5 HQ0 hvx
  by_cases h7 : m7 ≠ 0
  · have e7 : ((m7 : Int) != 0) = true := by rw [bne_iff_ne]; exact h7
    have con := Text_any _ _ X6 C9.2 (by simp) (by decide)
    have x9 := C9.cell
    clear h7 HQ1 C5 C7 okx inx
    go_wp2_with fail
    rewrite [HB7.out, HX5.out, HX6.out]
    go_wp2_with fail
    refine con.mono ?_
    rintro e w3 ⟨rfl, hb3⟩
    clear con
    go_wp2
    go_ret
    exact ⟨(by first | rfl | exact e1 | (rw [e1]) | simp [e1]), B_6.trans (hb3.mono B_6.size)⟩
  obtain ⟨y, h7', hvy, oky, iny⟩ := HQ1.out.resolve_left h7
  subst h7'
  rewrite [hvy] at C7
  clear h7 HQ1 hvy
  have lx : ∀ p ∈ x, p.length ≤ 60 := fun p hp => f2 p (inx p hp)
  have hlen := cls_short x okx lx
  have hlen2 : (clsT x).length ≤ 1300 := by
    have h1 := cls_len 60 x lx
    have h2 : x.length * (60 + 3) ≤ 16 * (60 + 3) := Nat.mul_le_mul_right _ okx.few
    omega
  have HP := Lib.hid (parse_back x okx hlen)
  have fx : x.length ≤ 1099511627776 := by have := okx.few; omega
  have fy : y.length ≤ 1099511627776 := by have := oky.few; omega
  have HE := Lib.hid (show (∃ n, eitherC x y = .inl n ∧ n = 3) ∨ ∃ o, eitherC x y = .inr o ∧ subB x o = true ∧ subB y o = true ∧ o.length ≤ 1099511627776 by
    have hj := sub_join x y okx.rise oky.rise
    unfold eitherC
    split
    · rename_i h; exact .inr ⟨_, rfl, hj.1, hj.2, by omega⟩
    · exact .inl ⟨_, rfl, rfl⟩)
  have HC := Lib.hid (cmp_sub x y okx.rise oky.rise)
  have HN := Lib.hid (Cls.sub_nil x)
  have hct := fun W (h : SetIs encStr W (.agg #[.slice q5 n5 c5]) x) => Text_any _ x W h fx (by omega)
  have HSZ := Lib.hid (mk_size (clsT x))
  generalize hT : clsT x = T at hct HP hlen hlen2 HSZ
  have d4 : decide ((T.length : Int) ≤ 4096) = true := by simp; omega
  have d4' : decide (((⟨T.toArray⟩ : ByteArray).size : Int) ≤ 4096) = true := by rewrite [HSZ.out]; exact d4
  clear hT lx inx iny okx oky e1 f1 f2 g1 g2 hl0 hl1 na nb
  have con := hct X6 C5.2
  have x5 : ((X4.alloc (.cells #[.slice q7 n7 c7] 28)).alloc (.cells #[.slice none 0 0] 28)).cell? ⟨b5, 0, none⟩ = some (.slice q5 n5 c5) := by rewrite [HX5.out, HX6.out]; exact C5.cell
  go_wp2_with fail
  rewrite [HB7.out, HX5.out, HX6.out]
  go_wp2_with fail
  refine con.mono ?_
  rintro e X7 ⟨rfl, hb⟩
  have B_7 := B_6.trans (hb.mono B_6.size)
  replace C5 := C5.on hb
  replace C7 := C7.on hb
  replace C9 := C9.on hb
  clear con hb B_6 HX5 HX6 HB7 x5
  obtain ⟨cc, X8, k0, hby, hb, -⟩ := conv_new X7 T (by omega)
  have B_8 := B_7.trans (hb.mono B_7.size)
  replace C5 := C5.on hb
  replace C7 := C7.on hb
  replace C9 := C9.on hb
  have con := Parse_any (some ⟨X7.heap.size, 0, none⟩) T.length cc T X8 hby (.inl hlen2) (HG.out.on B_8)
  rewrite [HP.out] at con
  clear hby hb B_7
  go_wp2_with fail
  (try rw [k0])
  go_wp2_with fail
  refine con.mono ?_
  rintro e X9 ⟨q10, n10, c10, rfl, hs10, hb⟩
  replace hs10 : SetIs encStr X9 (.agg #[.slice q10 n10 c10]) x := hs10
  have B_9 := B_8.trans (hb.mono B_8.size)
  replace C5 := C5.on hb
  replace C7 := C7.on hb
  replace C9 := C9.on hb
  clear con hb k0 B_8 HP
  unfold errC
  obtain ⟨X10, hX10⟩ : ∃ Z, X9.alloc (.cells #[.slice q10 n10 c10] 28) = Z := ⟨_, rfl⟩
  obtain ⟨b10, hb10⟩ : ∃ b, X9.heap.size = b := ⟨_, rfl⟩
  have C10 : CB b10 q10 n10 c10 x X10 := by rw [← hX10, ← hb10]; exact CB.new hs10
  have hb : Below X9.heap.size X9 X10 := by rw [← hX10]; exact below_alloc _
  have B_10 := B_9.trans (hb.mono B_9.size)
  replace C5 := C5.on hb
  replace C7 := C7.on hb
  replace C9 := C9.on hb
  have HX10 := Lib.hid hX10
  have HB10 := Lib.hid hb10
  have con := hct X10 C5.2
  have x5 : (X9.alloc (.cells #[.slice q10 n10 c10] 28)).cell? ⟨b5, 0, none⟩ = some (.slice q5 n5 c5) := by rewrite [HX10.out]; exact C5.cell
  clear hX10 hb10 hs10 hb B_9
  go_wp2_with fail
  rewrite [HB10.out, HX10.out]
  go_wp2_with fail
  refine con.mono ?_
  rintro e X11 ⟨rfl, hb⟩
  have B_11 := B_10.trans (hb.mono B_10.size)
  replace C5 := C5.on hb
  replace C7 := C7.on hb
  replace C9 := C9.on hb
  replace C10 := C10.on hb
  clear con hb B_10 HX10 HB10 x5 hct
  have con := Cmp_any _ _ x x X11 C10.2 C5.2
  rewrite [cmpL_self] at con
  have x5 := C5.cell
  have x10 := C10.cell
  go_wp2_with fail
  refine con.mono ?_
  rintro e X12 ⟨rfl, hb⟩
  have B_12 := B_11.trans (hb.mono B_11.size)
  replace C5 := C5.on hb
  replace C7 := C7.on hb
  replace C9 := C9.on hb
  clear con hb B_11 x5 x10 C10 d4 d4' hlen hlen2 HSZ
  have con := Either_any _ _ x y X12 C5.2 C7.2 fx fy
  have x5 := C5.cell
  have x7 := C7.cell
  go_wp2_with fail
  refine con.mono ?_
  rintro e X13 ⟨q12, n12, c12, rfl, hs12, hb⟩
  have B_13 := B_12.trans (hb.mono B_12.size)
  replace C5 := C5.on hb
  replace C7 := C7.on hb
  replace C9 := C9.on hb
  clear con hb B_12 x5 x7
  obtain ⟨X14, hX14⟩ : ∃ Z, X13.alloc (.cells #[.slice q12 n12 c12] 28) = Z := ⟨_, rfl⟩
  obtain ⟨b12, hb12⟩ : ∃ b, X13.heap.size = b := ⟨_, rfl⟩
  have C12 : CB b12 q12 n12 c12 (valC (eitherC x y)) X14 := by rw [← hX14, ← hb12]; exact CB.new hs12
  have hb : Below X13.heap.size X13 X14 := by rw [← hX14]; exact below_alloc _
  have B_14 := B_13.trans (hb.mono B_13.size)
  replace C5 := C5.on hb
  replace C7 := C7.on hb
  replace C9 := C9.on hb
  have HX14 := Lib.hid hX14
  have HB12 := Lib.hid hb12
  clear hX14 hb12 hs12 hb B_13
  rcases HE.out with ⟨n, hn, rfl⟩ | ⟨o, ho, sx, sy, fo⟩
  · rewrite [hn] at C12
    have x12 := C12.cell
    clear C12 HE
    rewrite [hn]
    unfold errC
    go_wp2_with fail
    rewrite [HB12.out, HX14.out]
    go_wp2_with fail
    have hm := HC.out
    have hn := HN.out
    have en : ((x.length : Int) == 0) = (x.length == 0) := by rw [Bool.eq_iff_iff, beq_iff_eq, beq_iff_eq]; omega
    rewrite [← hn] at en
    generalize hzn : subB x [] = zn at hn en
    generalize hz1 : subB x y = z1 at hm
    generalize hz2 : subB y x = z2 at hm
    generalize hmm : cmpL x y = m at hm
    have HZN := Lib.hid hzn
    have HZ1 := Lib.hid hz1
    have HZ2 := Lib.hid hz2
    have HMM := Lib.hid hmm
    clear hzn hz1 hz2 hmm hn
    refine pregion_any (fun X => X.cell? ⟨b5, 0, none⟩ = some (.slice q5 n5 c5) ∧ X.cell? ⟨b7, 0, none⟩ = some (.slice q7 n7 c7) ∧ X.cell? ⟨b7 + 1, 0, none⟩ = some (.slice none 0 0)) (by kernel_rfl) ?_
    have hb : Below X14.heap.size X14 X14.drew := ⟨rfl, rfl, rfl, Nat.le_refl _, fun _ _ => rfl⟩
    obtain ⟨X14d, hXd⟩ : ∃ Z, X14.drew = Z := ⟨_, rfl⟩
    rw [hXd] at hb ⊢
    have con := hXd
    have B_14d := B_14.trans (hb.mono B_14.size)
    replace C5 := C5.on hb
    replace C7 := C7.on hb
    replace C9 := C9.on hb
    clear con hb B_14
    refine wpAnyH_take (i := 0) (v := (.agg #[.slice none 0 0])) rfl (by kernel_rfl) (by kernel_rfl) (by kernel_rfl) (fun _ _ _ h => h) (.inl ⟨by kernel_rfl, ?_⟩) ⟨C5.cell, C7.cell, C9.cell⟩ ?_
    · rintro w ⟨h1, h2, h3⟩; go_simp <;> omega
    refine plist #[true, false, false, false, false, false, false, false, false, false, false, false, false, false, false, false, false, false, false, false, false, false, false, false, false, false, false, false, false, false, false, false, false] (by kernel_rfl) ?_
    refine wpAnyH_take (i := 1) (v := (.agg #[.slice q5 n5 c5])) rfl (by kernel_rfl) (by kernel_rfl) (by kernel_rfl) (fun _ _ _ h => h) (.inl ⟨by kernel_rfl, ?_⟩) ⟨C5.cell, C7.cell, C9.cell⟩ ?_
    · rintro w ⟨h1, h2, h3⟩; go_simp <;> omega
    refine plist #[true, true, false, false, false, false, false, false, false, false, false, false, false, false, false, false, false, false, false, false, false, false, false, false, false, false, false, false, false, false, false, false, false] (by kernel_rfl) ?_
    have con := Implies_any _ _ [] x X14d C9.2 C5.2 (by simp) fx
    refine pone 2 (by kernel_rfl) rfl fun K hK => ?_
    go_simp
    refine con.mono ?_
    rintro e X14e ⟨rfl, hb⟩
    have B_14e := B_14d.trans (hb.mono B_14d.size)
    replace C5 := C5.on hb
    replace C7 := C7.on hb
    replace C9 := C9.on hb
    clear con hb B_14d
    refine hK _ _ ⟨C5.cell, C7.cell, C9.cell⟩ ?_
    clear hK K
    refine plist #[true, true, true, false, false, false, false, false, false, false, false, false, false, false, false, false, false, false, false, false, false, false, false, false, false, false, false, false, false, false, false, false, false] (by kernel_rfl) ?_
    refine pone 3 (by kernel_rfl) rfl fun K hK => ?_
    go_simp
    refine hK _ _ ⟨C5.cell, C7.cell, C9.cell⟩ ?_
    clear hK K
    refine plist #[true, true, true, true, false, false, false, false, false, false, false, false, false, false, false, false, false, false, false, false, false, false, false, false, false, false, false, false, false, false, false, false, false] (by kernel_rfl) ?_
    refine wpAnyH_take (i := 4) (v := (.agg #[.slice q5 n5 c5])) rfl (by kernel_rfl) (by kernel_rfl) (by kernel_rfl) (fun _ _ _ h => h) (.inl ⟨by kernel_rfl, ?_⟩) ⟨C5.cell, C7.cell, C9.cell⟩ ?_
    · rintro w ⟨h1, h2, h3⟩; go_simp <;> omega
    refine plist #[true, true, true, true, true, false, false, false, false, false, false, false, false, false, false, false, false, false, false, false, false, false, false, false, false, false, false, false, false, false, false, false, false] (by kernel_rfl) ?_
    refine wpAnyH_take (i := 5) (v := (.agg #[.slice none 0 0])) rfl (by kernel_rfl) (by kernel_rfl) (by kernel_rfl) (fun _ _ _ h => h) (.inl ⟨by kernel_rfl, ?_⟩) ⟨C5.cell, C7.cell, C9.cell⟩ ?_
    · rintro w ⟨h1, h2, h3⟩; go_simp <;> omega
    refine plist #[true, true, true, true, true, true, false, false, false, false, false, false, false, false, false, false, false, false, false, false, false, false, false, false, false, false, false, false, false, false, false, false, false] (by kernel_rfl) ?_
    refine wpAnyH_take (i := 7) (v := (.agg #[.slice q5 n5 c5])) rfl (by kernel_rfl) (by kernel_rfl) (by kernel_rfl) (fun _ _ _ h => h) (.inl ⟨by kernel_rfl, ?_⟩) ⟨C5.cell, C7.cell, C9.cell⟩ ?_
    · rintro w ⟨h1, h2, h3⟩; go_simp <;> omega
    refine plist #[true, true, true, true, true, true, false, true, false, false, false, false, false, false, false, false, false, false, false, false, false, false, false, false, false, false, false, false, false, false, false, false, false] (by kernel_rfl) ?_
    have con := (by have c := Implies_any _ _ x [] X14e C5.2 C9.2 fx (by simp); rewrite [HZN.out] at c; exact c)
    refine pone 6 (by kernel_rfl) rfl fun K hK => ?_
    go_simp
    refine con.mono ?_
    rintro e X14f ⟨rfl, hb⟩
    have B_14f := B_14e.trans (hb.mono B_14e.size)
    replace C5 := C5.on hb
    replace C7 := C7.on hb
    replace C9 := C9.on hb
    clear con hb B_14e
    refine hK _ _ ⟨C5.cell, C7.cell, C9.cell⟩ ?_
    clear hK K
    refine plist #[true, true, true, true, true, true, true, true, false, false, false, false, false, false, false, false, false, false, false, false, false, false, false, false, false, false, false, false, false, false, false, false, false] (by kernel_rfl) ?_
    have con := Len_any _ x X14f C5.2
    refine pone 8 (by kernel_rfl) rfl fun K hK => ?_
    go_simp
    refine con.mono ?_
    rintro e X14g ⟨rfl, hb⟩
    have B_14g := B_14f.trans (hb.mono B_14f.size)
    replace C5 := C5.on hb
    replace C7 := C7.on hb
    replace C9 := C9.on hb
    clear con hb B_14f
    refine hK _ _ ⟨C5.cell, C7.cell, C9.cell⟩ ?_
    clear hK K
    refine plist #[true, true, true, true, true, true, true, true, true, false, false, false, false, false, false, false, false, false, false, false, false, false, false, false, false, false, false, false, false, false, false, false, false] (by kernel_rfl) ?_
    refine pone 9 (by kernel_rfl) rfl fun K hK => ?_
    go_simp
    refine hK _ _ ⟨C5.cell, C7.cell, C9.cell⟩ ?_
    clear hK K
    refine plist #[true, true, true, true, true, true, true, true, true, true, false, false, false, false, false, false, false, false, false, false, false, false, false, false, false, false, false, false, false, false, false, false, false] (by kernel_rfl) ?_
    refine pone 10 (by kernel_rfl) rfl fun K hK => ?_
    go_simp
    refine hK _ _ ⟨C5.cell, C7.cell, C9.cell⟩ ?_
    clear hK K
    refine plist #[true, true, true, true, true, true, true, true, true, true, true, false, false, false, false, false, false, false, false, false, false, false, false, false, false, false, false, false, false, false, false, false, false] (by kernel_rfl) ?_
    refine pone 11 (by kernel_rfl) rfl fun K hK => ?_
    go_simp
    refine hK _ _ ⟨C5.cell, C7.cell, C9.cell⟩ ?_
    clear hK K
    refine plist #[true, true, true, true, true, true, true, true, true, true, true, true, false, false, false, false, false, false, false, false, false, false, false, false, false, false, false, false, false, false, false, false, false] (by kernel_rfl) ?_
    refine pone 12 (by kernel_rfl) rfl fun K hK => ?_
    go_simp
    refine hK _ _ ⟨C5.cell, C7.cell, C9.cell⟩ ?_
    clear hK K
    refine plist #[true, true, true, true, true, true, true, true, true, true, true, true, true, false, false, false, false, false, false, false, false, false, false, false, false, false, false, false, false, false, false, false, false] (by kernel_rfl) ?_
    refine wpAnyH_take (i := 13) (v := (.agg #[.slice q5 n5 c5])) rfl (by kernel_rfl) (by kernel_rfl) (by kernel_rfl) (fun _ _ _ h => h) (.inl ⟨by kernel_rfl, ?_⟩) ⟨C5.cell, C7.cell, C9.cell⟩ ?_
    · rintro w ⟨h1, h2, h3⟩; go_simp <;> omega
    refine plist #[true, true, true, true, true, true, true, true, true, true, true, true, true, true, false, false, false, false, false, false, false, false, false, false, false, false, false, false, false, false, false, false, false] (by kernel_rfl) ?_
    refine wpAnyH_take (i := 14) (v := (.agg #[.slice q5 n5 c5])) rfl (by kernel_rfl) (by kernel_rfl) (by kernel_rfl) (fun _ _ _ h => h) (.inl ⟨by kernel_rfl, ?_⟩) ⟨C5.cell, C7.cell, C9.cell⟩ ?_
    · rintro w ⟨h1, h2, h3⟩; go_simp <;> omega
    refine plist #[true, true, true, true, true, true, true, true, true, true, true, true, true, true, true, false, false, false, false, false, false, false, false, false, false, false, false, false, false, false, false, false, false] (by kernel_rfl) ?_
    have con := (by have c := Implies_any _ _ x x X14g C5.2 C5.2 fx fx; rewrite [sub_self] at c; exact c)
    refine pone 15 (by kernel_rfl) rfl fun K hK => ?_
    go_simp
    refine con.mono ?_
    rintro e X14h ⟨rfl, hb⟩
    have B_14h := B_14g.trans (hb.mono B_14g.size)
    replace C5 := C5.on hb
    replace C7 := C7.on hb
    replace C9 := C9.on hb
    clear con hb B_14g
    refine hK _ _ ⟨C5.cell, C7.cell, C9.cell⟩ ?_
    clear hK K
    refine plist #[true, true, true, true, true, true, true, true, true, true, true, true, true, true, true, true, false, false, false, false, false, false, false, false, false, false, false, false, false, false, false, false, false] (by kernel_rfl) ?_
    refine pone 16 (by kernel_rfl) rfl fun K hK => ?_
    go_simp
    refine hK _ _ ⟨C5.cell, C7.cell, C9.cell⟩ ?_
    clear hK K
    refine plist #[true, true, true, true, true, true, true, true, true, true, true, true, true, true, true, true, true, false, false, false, false, false, false, false, false, false, false, false, false, false, false, false, false] (by kernel_rfl) ?_
    refine pone 17 (by kernel_rfl) rfl fun K hK => ?_
    go_simp
    refine hK _ _ ⟨C5.cell, C7.cell, C9.cell⟩ ?_
    clear hK K
    refine plist #[true, true, true, true, true, true, true, true, true, true, true, true, true, true, true, true, true, true, false, false, false, false, false, false, false, false, false, false, false, false, false, false, false] (by kernel_rfl) ?_
    refine wpAnyH_take (i := 18) (v := (.agg #[.slice q5 n5 c5])) rfl (by kernel_rfl) (by kernel_rfl) (by kernel_rfl) (fun _ _ _ h => h) (.inl ⟨by kernel_rfl, ?_⟩) ⟨C5.cell, C7.cell, C9.cell⟩ ?_
    · rintro w ⟨h1, h2, h3⟩; go_simp <;> omega
    refine plist #[true, true, true, true, true, true, true, true, true, true, true, true, true, true, true, true, true, true, true, false, false, false, false, false, false, false, false, false, false, false, false, false, false] (by kernel_rfl) ?_
    refine wpAnyH_take (i := 19) (v := (.agg #[.slice q7 n7 c7])) rfl (by kernel_rfl) (by kernel_rfl) (by kernel_rfl) (fun _ _ _ h => h) (.inl ⟨by kernel_rfl, ?_⟩) ⟨C5.cell, C7.cell, C9.cell⟩ ?_
    · rintro w ⟨h1, h2, h3⟩; go_simp <;> omega
    refine plist #[true, true, true, true, true, true, true, true, true, true, true, true, true, true, true, true, true, true, true, true, false, false, false, false, false, false, false, false, false, false, false, false, false] (by kernel_rfl) ?_
    refine wpAnyH_take (i := 22) (v := (.agg #[.slice q5 n5 c5])) rfl (by kernel_rfl) (by kernel_rfl) (by kernel_rfl) (fun _ _ _ h => h) (.inl ⟨by kernel_rfl, ?_⟩) ⟨C5.cell, C7.cell, C9.cell⟩ ?_
    · rintro w ⟨h1, h2, h3⟩; go_simp <;> omega
    refine plist #[true, true, true, true, true, true, true, true, true, true, true, true, true, true, true, true, true, true, true, true, false, false, true, false, false, false, false, false, false, false, false, false, false] (by kernel_rfl) ?_
    refine wpAnyH_take (i := 23) (v := (.agg #[.slice q7 n7 c7])) rfl (by kernel_rfl) (by kernel_rfl) (by kernel_rfl) (fun _ _ _ h => h) (.inl ⟨by kernel_rfl, ?_⟩) ⟨C5.cell, C7.cell, C9.cell⟩ ?_
    · rintro w ⟨h1, h2, h3⟩; go_simp <;> omega
    refine plist #[true, true, true, true, true, true, true, true, true, true, true, true, true, true, true, true, true, true, true, true, false, false, true, true, false, false, false, false, false, false, false, false, false] (by kernel_rfl) ?_
    have con := (by have c := Cmp_any _ _ x y X14h C5.2 C7.2; rewrite [HMM.out] at c; exact c)
    refine pone 20 (by kernel_rfl) rfl fun K hK => ?_
    go_simp
    refine con.mono ?_
    rintro e X14i ⟨rfl, hb⟩
    have B_14i := B_14h.trans (hb.mono B_14h.size)
    replace C5 := C5.on hb
    replace C7 := C7.on hb
    replace C9 := C9.on hb
    clear con hb B_14h
    refine hK _ _ ⟨C5.cell, C7.cell, C9.cell⟩ ?_
    clear hK K
    refine plist #[true, true, true, true, true, true, true, true, true, true, true, true, true, true, true, true, true, true, true, true, true, false, true, true, false, false, false, false, false, false, false, false, false] (by kernel_rfl) ?_
    refine wpAnyH_take (i := 21) (v := (.bool (m == 0))) rfl (by kernel_rfl) (by kernel_rfl) (by kernel_rfl) (fun _ _ _ h => h) (.inl ⟨by kernel_rfl, ?_⟩) ⟨C5.cell, C7.cell, C9.cell⟩ ?_
    · rintro w ⟨h1, h2, h3⟩; go_simp <;> omega
    refine plist #[true, true, true, true, true, true, true, true, true, true, true, true, true, true, true, true, true, true, true, true, true, true, true, true, false, false, false, false, false, false, false, false, false] (by kernel_rfl) ?_
    have con := (by have c := Implies_any _ _ x y X14i C5.2 C7.2 fx fy; rewrite [HZ1.out] at c; exact c)
    refine pone 24 (by kernel_rfl) rfl fun K hK => ?_
    go_simp
    refine con.mono ?_
    rintro e X14j ⟨rfl, hb⟩
    have B_14j := B_14i.trans (hb.mono B_14i.size)
    replace C5 := C5.on hb
    replace C7 := C7.on hb
    replace C9 := C9.on hb
    clear con hb B_14i
    refine hK _ _ ⟨C5.cell, C7.cell, C9.cell⟩ ?_
    clear hK K
    refine plist #[true, true, true, true, true, true, true, true, true, true, true, true, true, true, true, true, true, true, true, true, true, true, true, true, true, false, false, false, false, false, false, false, false] (by kernel_rfl) ?_
    refine pone 25 (by kernel_rfl) rfl fun K hK => ?_
    go_simp
    refine hK _ _ ⟨C5.cell, C7.cell, C9.cell⟩ ?_
    clear hK K
    refine plist #[true, true, true, true, true, true, true, true, true, true, true, true, true, true, true, true, true, true, true, true, true, true, true, true, true, true, false, false, false, false, false, false, false] (by kernel_rfl) ?_
    cases z1 with
    | true =>
      rewrite [Bool.true_and] at hm
      refine wpAnyH_take (i := 26) (v := (.agg #[.slice q7 n7 c7])) rfl (by kernel_rfl) (by kernel_rfl) (by kernel_rfl) (fun _ _ _ h => h) (.inl ⟨by kernel_rfl, ?_⟩) ⟨C5.cell, C7.cell, C9.cell⟩ ?_
      · rintro w ⟨h1, h2, h3⟩; go_simp <;> omega
      refine plist #[true, true, true, true, true, true, true, true, true, true, true, true, true, true, true, true, true, true, true, true, true, true, true, true, true, true, true, false, false, false, false, false, false] (by kernel_rfl) ?_
      refine wpAnyH_take (i := 27) (v := (.agg #[.slice q5 n5 c5])) rfl (by kernel_rfl) (by kernel_rfl) (by kernel_rfl) (fun _ _ _ h => h) (.inl ⟨by kernel_rfl, ?_⟩) ⟨C5.cell, C7.cell, C9.cell⟩ ?_
      · rintro w ⟨h1, h2, h3⟩; go_simp <;> omega
      refine plist #[true, true, true, true, true, true, true, true, true, true, true, true, true, true, true, true, true, true, true, true, true, true, true, true, true, true, true, true, false, false, false, false, false] (by kernel_rfl) ?_
      have con := (by have c := Implies_any _ _ y x X14j C7.2 C5.2 fy fx; rewrite [HZ2.out] at c; exact c)
      refine pone 28 (by kernel_rfl) rfl fun K hK => ?_
      go_simp
      refine con.mono ?_
      rintro e X14k ⟨rfl, hb⟩
      have B_14k := B_14j.trans (hb.mono B_14j.size)
      replace C5 := C5.on hb
      replace C7 := C7.on hb
      replace C9 := C9.on hb
      clear con hb B_14j
      refine hK _ _ ⟨C5.cell, C7.cell, C9.cell⟩ ?_
      clear hK K
      refine plist #[true, true, true, true, true, true, true, true, true, true, true, true, true, true, true, true, true, true, true, true, true, true, true, true, true, true, true, true, true, false, false, false, false] (by kernel_rfl) ?_
      refine pone 29 (by kernel_rfl) rfl fun K hK => ?_
      go_simp
      refine hK _ _ ⟨C5.cell, C7.cell, C9.cell⟩ ?_
      clear hK K
      refine plist #[true, true, true, true, true, true, true, true, true, true, true, true, true, true, true, true, true, true, true, true, true, true, true, true, true, true, true, true, true, true, false, false, false] (by kernel_rfl) ?_
      refine pone 30 (by kernel_rfl) rfl fun K hK => ?_
      go_simp
      (try rewrite [hm])
      refine hK _ _ ⟨C5.cell, C7.cell, C9.cell⟩ ?_
      clear hK K
      refine plist #[true, true, true, true, true, true, true, true, true, true, true, true, true, true, true, true, true, true, true, true, true, true, true, true, true, true, true, true, true, true, true, false, false] (by kernel_rfl) ?_
      refine pone 31 (by kernel_rfl) rfl fun K hK => ?_
      go_simp
      refine hK _ _ ⟨C5.cell, C7.cell, C9.cell⟩ ?_
      clear hK K
      refine plist #[true, true, true, true, true, true, true, true, true, true, true, true, true, true, true, true, true, true, true, true, true, true, true, true, true, true, true, true, true, true, true, true, false] (by kernel_rfl) ?_
      refine pone 32 (by kernel_rfl) rfl fun K hK => ?_
      go_simp
      refine hK _ _ ⟨C5.cell, C7.cell, C9.cell⟩ ?_
      clear hK K
      refine pdone (by kernel_rfl) ?_ _
      go_wp2
      go_ret
      exact ⟨(by first | rfl | simp), B_14k⟩
    | false =>
      rewrite [Bool.false_and] at hm
      refine wpAnyH_take (i := 26) (v := undef) rfl (by kernel_rfl) (by kernel_rfl) (by kernel_rfl) (fun _ _ _ h => h) (.inr ⟨by kernel_rfl, rfl⟩) ⟨C5.cell, C7.cell, C9.cell⟩ ?_
      refine plist #[true, true, true, true, true, true, true, true, true, true, true, true, true, true, true, true, true, true, true, true, true, true, true, true, true, true, true, false, false, false, false, false, false] (by kernel_rfl) ?_
      refine wpAnyH_take (i := 27) (v := undef) rfl (by kernel_rfl) (by kernel_rfl) (by kernel_rfl) (fun _ _ _ h => h) (.inr ⟨by kernel_rfl, rfl⟩) ⟨C5.cell, C7.cell, C9.cell⟩ ?_
      refine plist #[true, true, true, true, true, true, true, true, true, true, true, true, true, true, true, true, true, true, true, true, true, true, true, true, true, true, true, true, false, false, false, false, false] (by kernel_rfl) ?_
      refine wpAnyH_take (i := 28) (v := undef) rfl (by kernel_rfl) (by kernel_rfl) (by kernel_rfl) (fun _ _ _ h => h) (.inr ⟨by kernel_rfl, rfl⟩) ⟨C5.cell, C7.cell, C9.cell⟩ ?_
      refine plist #[true, true, true, true, true, true, true, true, true, true, true, true, true, true, true, true, true, true, true, true, true, true, true, true, true, true, true, true, true, false, false, false, false] (by kernel_rfl) ?_
      refine pone 29 (by kernel_rfl) rfl fun K hK => ?_
      go_simp
      refine hK _ _ ⟨C5.cell, C7.cell, C9.cell⟩ ?_
      clear hK K
      refine plist #[true, true, true, true, true, true, true, true, true, true, true, true, true, true, true, true, true, true, true, true, true, true, true, true, true, true, true, true, true, true, false, false, false] (by kernel_rfl) ?_
      refine pone 30 (by kernel_rfl) rfl fun K hK => ?_
      go_simp
      (try rewrite [hm])
      refine hK _ _ ⟨C5.cell, C7.cell, C9.cell⟩ ?_
      clear hK K
      refine plist #[true, true, true, true, true, true, true, true, true, true, true, true, true, true, true, true, true, true, true, true, true, true, true, true, true, true, true, true, true, true, true, false, false] (by kernel_rfl) ?_
      refine pone 31 (by kernel_rfl) rfl fun K hK => ?_
      go_simp
      refine hK _ _ ⟨C5.cell, C7.cell, C9.cell⟩ ?_
      clear hK K
      refine plist #[true, true, true, true, true, true, true, true, true, true, true, true, true, true, true, true, true, true, true, true, true, true, true, true, true, true, true, true, true, true, true, true, false] (by kernel_rfl) ?_
      refine pone 32 (by kernel_rfl) rfl fun K hK => ?_
      go_simp
      refine hK _ _ ⟨C5.cell, C7.cell, C9.cell⟩ ?_
      clear hK K
      refine pdone (by kernel_rfl) ?_ _
      go_wp2
      go_ret
      exact ⟨(by first | rfl | simp), B_14j⟩
  · rewrite [ho] at C12
    rewrite [ho]
    replace C12 : CB b12 q12 n12 c12 o X14 := C12
    unfold errC
    have x5 : (X13.alloc (.cells #[.slice q12 n12 c12] 28)).cell? ⟨b5, 0, none⟩ = some (.slice q5 n5 c5) := by rewrite [HX14.out]; exact C5.cell
    have x12 : (X13.alloc (.cells #[.slice q12 n12 c12] 28)).cell? ⟨b12, 0, none⟩ = some (.slice q12 n12 c12) := by rewrite [HX14.out]; exact C12.cell
    have con := (by have c := Implies_any _ _ x o X14 C5.2 C12.2 fx fo; rewrite [sx] at c; exact c)
    clear HE ho
    go_wp2_with fail
    rewrite [HB12.out, HX14.out]
    go_wp2_with fail
    refine con.mono ?_
    rintro e X15 ⟨rfl, hb⟩
    replace C12 := C12.on hb
    clear x5 x12
    have B_15 := B_14.trans (hb.mono B_14.size)
    replace C5 := C5.on hb
    replace C7 := C7.on hb
    replace C9 := C9.on hb
    clear con hb B_14
    have x7 := C7.cell
    have x12 := C12.cell
    have con := (by have c := Implies_any _ _ y o X15 C7.2 C12.2 fy fo; rewrite [sy] at c; exact c)
    go_wp2_with fail
    refine con.mono ?_
    rintro e X16 ⟨rfl, hb⟩
    clear x7 x12 C12
    have B_16 := B_15.trans (hb.mono B_15.size)
    replace C5 := C5.on hb
    replace C7 := C7.on hb
    replace C9 := C9.on hb
    clear con hb B_15
    go_wp2_with fail
    have hm := HC.out
    have hn := HN.out
    have en : ((x.length : Int) == 0) = (x.length == 0) := by rw [Bool.eq_iff_iff, beq_iff_eq, beq_iff_eq]; omega
    rewrite [← hn] at en
    generalize hzn : subB x [] = zn at hn en
    generalize hz1 : subB x y = z1 at hm
    generalize hz2 : subB y x = z2 at hm
    generalize hmm : cmpL x y = m at hm
    have HZN := Lib.hid hzn
    have HZ1 := Lib.hid hz1
    have HZ2 := Lib.hid hz2
    have HMM := Lib.hid hmm
    clear hzn hz1 hz2 hmm hn
    refine pregion_any (fun X => X.cell? ⟨b5, 0, none⟩ = some (.slice q5 n5 c5) ∧ X.cell? ⟨b7, 0, none⟩ = some (.slice q7 n7 c7) ∧ X.cell? ⟨b7 + 1, 0, none⟩ = some (.slice none 0 0)) (by kernel_rfl) ?_
    have hb : Below X16.heap.size X16 X16.drew := ⟨rfl, rfl, rfl, Nat.le_refl _, fun _ _ => rfl⟩
    obtain ⟨X16d, hXd⟩ : ∃ Z, X16.drew = Z := ⟨_, rfl⟩
    rw [hXd] at hb ⊢
    have con := hXd
    have B_16d := B_16.trans (hb.mono B_16.size)
    replace C5 := C5.on hb
    replace C7 := C7.on hb
    replace C9 := C9.on hb
    clear con hb B_16
    refine wpAnyH_take (i := 0) (v := (.agg #[.slice none 0 0])) rfl (by kernel_rfl) (by kernel_rfl) (by kernel_rfl) (fun _ _ _ h => h) (.inl ⟨by kernel_rfl, ?_⟩) ⟨C5.cell, C7.cell, C9.cell⟩ ?_
    · rintro w ⟨h1, h2, h3⟩; go_simp <;> omega
    refine plist #[true, false, false, false, false, false, false, false, false, false, false, false, false, false, false, false, false, false, false, false, false, false, false, false, false, false, false, false, false, false, false, false, false] (by kernel_rfl) ?_
    refine wpAnyH_take (i := 1) (v := (.agg #[.slice q5 n5 c5])) rfl (by kernel_rfl) (by kernel_rfl) (by kernel_rfl) (fun _ _ _ h => h) (.inl ⟨by kernel_rfl, ?_⟩) ⟨C5.cell, C7.cell, C9.cell⟩ ?_
    · rintro w ⟨h1, h2, h3⟩; go_simp <;> omega
    refine plist #[true, true, false, false, false, false, false, false, false, false, false, false, false, false, false, false, false, false, false, false, false, false, false, false, false, false, false, false, false, false, false, false, false] (by kernel_rfl) ?_
    have con := Implies_any _ _ [] x X16d C9.2 C5.2 (by simp) fx
    refine pone 2 (by kernel_rfl) rfl fun K hK => ?_
    go_simp
    refine con.mono ?_
    rintro e X16e ⟨rfl, hb⟩
    have B_16e := B_16d.trans (hb.mono B_16d.size)
    replace C5 := C5.on hb
    replace C7 := C7.on hb
    replace C9 := C9.on hb
    clear con hb B_16d
    refine hK _ _ ⟨C5.cell, C7.cell, C9.cell⟩ ?_
    clear hK K
    refine plist #[true, true, true, false, false, false, false, false, false, false, false, false, false, false, false, false, false, false, false, false, false, false, false, false, false, false, false, false, false, false, false, false, false] (by kernel_rfl) ?_
    refine pone 3 (by kernel_rfl) rfl fun K hK => ?_
    go_simp
    refine hK _ _ ⟨C5.cell, C7.cell, C9.cell⟩ ?_
    clear hK K
    refine plist #[true, true, true, true, false, false, false, false, false, false, false, false, false, false, false, false, false, false, false, false, false, false, false, false, false, false, false, false, false, false, false, false, false] (by kernel_rfl) ?_
    refine wpAnyH_take (i := 4) (v := (.agg #[.slice q5 n5 c5])) rfl (by kernel_rfl) (by kernel_rfl) (by kernel_rfl) (fun _ _ _ h => h) (.inl ⟨by kernel_rfl, ?_⟩) ⟨C5.cell, C7.cell, C9.cell⟩ ?_
    · rintro w ⟨h1, h2, h3⟩; go_simp <;> omega
    refine plist #[true, true, true, true, true, false, false, false, false, false, false, false, false, false, false, false, false, false, false, false, false, false, false, false, false, false, false, false, false, false, false, false, false] (by kernel_rfl) ?_
    refine wpAnyH_take (i := 5) (v := (.agg #[.slice none 0 0])) rfl (by kernel_rfl) (by kernel_rfl) (by kernel_rfl) (fun _ _ _ h => h) (.inl ⟨by kernel_rfl, ?_⟩) ⟨C5.cell, C7.cell, C9.cell⟩ ?_
    · rintro w ⟨h1, h2, h3⟩; go_simp <;> omega
    refine plist #[true, true, true, true, true, true, false, false, false, false, false, false, false, false, false, false, false, false, false, false, false, false, false, false, false, false, false, false, false, false, false, false, false] (by kernel_rfl) ?_
    refine wpAnyH_take (i := 7) (v := (.agg #[.slice q5 n5 c5])) rfl (by kernel_rfl) (by kernel_rfl) (by kernel_rfl) (fun _ _ _ h => h) (.inl ⟨by kernel_rfl, ?_⟩) ⟨C5.cell, C7.cell, C9.cell⟩ ?_
    · rintro w ⟨h1, h2, h3⟩; go_simp <;> omega
    refine plist #[true, true, true, true, true, true, false, true, false, false, false, false, false, false, false, false, false, false, false, false, false, false, false, false, false, false, false, false, false, false, false, false, false] (by kernel_rfl) ?_
    have con := (by have c := Implies_any _ _ x [] X16e C5.2 C9.2 fx (by simp); rewrite [HZN.out] at c; exact c)
    refine pone 6 (by kernel_rfl) rfl fun K hK => ?_
    go_simp
    refine con.mono ?_
    rintro e X16f ⟨rfl, hb⟩
    have B_16f := B_16e.trans (hb.mono B_16e.size)
    replace C5 := C5.on hb
    replace C7 := C7.on hb
    replace C9 := C9.on hb
    clear con hb B_16e
    refine hK _ _ ⟨C5.cell, C7.cell, C9.cell⟩ ?_
    clear hK K
    refine plist #[true, true, true, true, true, true, true, true, false, false, false, false, false, false, false, false, false, false, false, false, false, false, false, false, false, false, false, false, false, false, false, false, false] (by kernel_rfl) ?_
    have con := Len_any _ x X16f C5.2
    refine pone 8 (by kernel_rfl) rfl fun K hK => ?_
    go_simp
    refine con.mono ?_
    rintro e X16g ⟨rfl, hb⟩
    have B_16g := B_16f.trans (hb.mono B_16f.size)
    replace C5 := C5.on hb
    replace C7 := C7.on hb
    replace C9 := C9.on hb
    clear con hb B_16f
    refine hK _ _ ⟨C5.cell, C7.cell, C9.cell⟩ ?_
    clear hK K
    refine plist #[true, true, true, true, true, true, true, true, true, false, false, false, false, false, false, false, false, false, false, false, false, false, false, false, false, false, false, false, false, false, false, false, false] (by kernel_rfl) ?_
    refine pone 9 (by kernel_rfl) rfl fun K hK => ?_
    go_simp
    refine hK _ _ ⟨C5.cell, C7.cell, C9.cell⟩ ?_
    clear hK K
    refine plist #[true, true, true, true, true, true, true, true, true, true, false, false, false, false, false, false, false, false, false, false, false, false, false, false, false, false, false, false, false, false, false, false, false] (by kernel_rfl) ?_
    refine pone 10 (by kernel_rfl) rfl fun K hK => ?_
    go_simp
    refine hK _ _ ⟨C5.cell, C7.cell, C9.cell⟩ ?_
    clear hK K
    refine plist #[true, true, true, true, true, true, true, true, true, true, true, false, false, false, false, false, false, false, false, false, false, false, false, false, false, false, false, false, false, false, false, false, false] (by kernel_rfl) ?_
    refine pone 11 (by kernel_rfl) rfl fun K hK => ?_
    go_simp
    refine hK _ _ ⟨C5.cell, C7.cell, C9.cell⟩ ?_
    clear hK K
    refine plist #[true, true, true, true, true, true, true, true, true, true, true, true, false, false, false, false, false, false, false, false, false, false, false, false, false, false, false, false, false, false, false, false, false] (by kernel_rfl) ?_
    refine pone 12 (by kernel_rfl) rfl fun K hK => ?_
    go_simp
    refine hK _ _ ⟨C5.cell, C7.cell, C9.cell⟩ ?_
    clear hK K
    refine plist #[true, true, true, true, true, true, true, true, true, true, true, true, true, false, false, false, false, false, false, false, false, false, false, false, false, false, false, false, false, false, false, false, false] (by kernel_rfl) ?_
    refine wpAnyH_take (i := 13) (v := (.agg #[.slice q5 n5 c5])) rfl (by kernel_rfl) (by kernel_rfl) (by kernel_rfl) (fun _ _ _ h => h) (.inl ⟨by kernel_rfl, ?_⟩) ⟨C5.cell, C7.cell, C9.cell⟩ ?_
    · rintro w ⟨h1, h2, h3⟩; go_simp <;> omega
    refine plist #[true, true, true, true, true, true, true, true, true, true, true, true, true, true, false, false, false, false, false, false, false, false, false, false, false, false, false, false, false, false, false, false, false] (by kernel_rfl) ?_
    refine wpAnyH_take (i := 14) (v := (.agg #[.slice q5 n5 c5])) rfl (by kernel_rfl) (by kernel_rfl) (by kernel_rfl) (fun _ _ _ h => h) (.inl ⟨by kernel_rfl, ?_⟩) ⟨C5.cell, C7.cell, C9.cell⟩ ?_
    · rintro w ⟨h1, h2, h3⟩; go_simp <;> omega
    refine plist #[true, true, true, true, true, true, true, true, true, true, true, true, true, true, true, false, false, false, false, false, false, false, false, false, false, false, false, false, false, false, false, false, false] (by kernel_rfl) ?_
    have con := (by have c := Implies_any _ _ x x X16g C5.2 C5.2 fx fx; rewrite [sub_self] at c; exact c)
    refine pone 15 (by kernel_rfl) rfl fun K hK => ?_
    go_simp
    refine con.mono ?_
    rintro e X16h ⟨rfl, hb⟩
    have B_16h := B_16g.trans (hb.mono B_16g.size)
    replace C5 := C5.on hb
    replace C7 := C7.on hb
    replace C9 := C9.on hb
    clear con hb B_16g
    refine hK _ _ ⟨C5.cell, C7.cell, C9.cell⟩ ?_
    clear hK K
    refine plist #[true, true, true, true, true, true, true, true, true, true, true, true, true, true, true, true, false, false, false, false, false, false, false, false, false, false, false, false, false, false, false, false, false] (by kernel_rfl) ?_
    refine pone 16 (by kernel_rfl) rfl fun K hK => ?_
    go_simp
    refine hK _ _ ⟨C5.cell, C7.cell, C9.cell⟩ ?_
    clear hK K
    refine plist #[true, true, true, true, true, true, true, true, true, true, true, true, true, true, true, true, true, false, false, false, false, false, false, false, false, false, false, false, false, false, false, false, false] (by kernel_rfl) ?_
    refine pone 17 (by kernel_rfl) rfl fun K hK => ?_
    go_simp
    refine hK _ _ ⟨C5.cell, C7.cell, C9.cell⟩ ?_
    clear hK K
    refine plist #[true, true, true, true, true, true, true, true, true, true, true, true, true, true, true, true, true, true, false, false, false, false, false, false, false, false, false, false, false, false, false, false, false] (by kernel_rfl) ?_
    refine wpAnyH_take (i := 18) (v := (.agg #[.slice q5 n5 c5])) rfl (by kernel_rfl) (by kernel_rfl) (by kernel_rfl) (fun _ _ _ h => h) (.inl ⟨by kernel_rfl, ?_⟩) ⟨C5.cell, C7.cell, C9.cell⟩ ?_
    · rintro w ⟨h1, h2, h3⟩; go_simp <;> omega
    refine plist #[true, true, true, true, true, true, true, true, true, true, true, true, true, true, true, true, true, true, true, false, false, false, false, false, false, false, false, false, false, false, false, false, false] (by kernel_rfl) ?_
    refine wpAnyH_take (i := 19) (v := (.agg #[.slice q7 n7 c7])) rfl (by kernel_rfl) (by kernel_rfl) (by kernel_rfl) (fun _ _ _ h => h) (.inl ⟨by kernel_rfl, ?_⟩) ⟨C5.cell, C7.cell, C9.cell⟩ ?_
    · rintro w ⟨h1, h2, h3⟩; go_simp <;> omega
    refine plist #[true, true, true, true, true, true, true, true, true, true, true, true, true, true, true, true, true, true, true, true, false, false, false, false, false, false, false, false, false, false, false, false, false] (by kernel_rfl) ?_
    refine wpAnyH_take (i := 22) (v := (.agg #[.slice q5 n5 c5])) rfl (by kernel_rfl) (by kernel_rfl) (by kernel_rfl) (fun _ _ _ h => h) (.inl ⟨by kernel_rfl, ?_⟩) ⟨C5.cell, C7.cell, C9.cell⟩ ?_
    · rintro w ⟨h1, h2, h3⟩; go_simp <;> omega
    refine plist #[true, true, true, true, true, true, true, true, true, true, true, true, true, true, true, true, true, true, true, true, false, false, true, false, false, false, false, false, false, false, false, false, false] (by kernel_rfl) ?_
    refine wpAnyH_take (i := 23) (v := (.agg #[.slice q7 n7 c7])) rfl (by kernel_rfl) (by kernel_rfl) (by kernel_rfl) (fun _ _ _ h => h) (.inl ⟨by kernel_rfl, ?_⟩) ⟨C5.cell, C7.cell, C9.cell⟩ ?_
    · rintro w ⟨h1, h2, h3⟩; go_simp <;> omega
    refine plist #[true, true, true, true, true, true, true, true, true, true, true, true, true, true, true, true, true, true, true, true, false, false, true, true, false, false, false, false, false, false, false, false, false] (by kernel_rfl) ?_
    have con := (by have c := Cmp_any _ _ x y X16h C5.2 C7.2; rewrite [HMM.out] at c; exact c)
    refine pone 20 (by kernel_rfl) rfl fun K hK => ?_
    go_simp
    refine con.mono ?_
    rintro e X16i ⟨rfl, hb⟩
    have B_16i := B_16h.trans (hb.mono B_16h.size)
    replace C5 := C5.on hb
    replace C7 := C7.on hb
    replace C9 := C9.on hb
    clear con hb B_16h
    refine hK _ _ ⟨C5.cell, C7.cell, C9.cell⟩ ?_
    clear hK K
    refine plist #[true, true, true, true, true, true, true, true, true, true, true, true, true, true, true, true, true, true, true, true, true, false, true, true, false, false, false, false, false, false, false, false, false] (by kernel_rfl) ?_
    refine wpAnyH_take (i := 21) (v := (.bool (m == 0))) rfl (by kernel_rfl) (by kernel_rfl) (by kernel_rfl) (fun _ _ _ h => h) (.inl ⟨by kernel_rfl, ?_⟩) ⟨C5.cell, C7.cell, C9.cell⟩ ?_
    · rintro w ⟨h1, h2, h3⟩; go_simp <;> omega
    refine plist #[true, true, true, true, true, true, true, true, true, true, true, true, true, true, true, true, true, true, true, true, true, true, true, true, false, false, false, false, false, false, false, false, false] (by kernel_rfl) ?_
    have con := (by have c := Implies_any _ _ x y X16i C5.2 C7.2 fx fy; rewrite [HZ1.out] at c; exact c)
    refine pone 24 (by kernel_rfl) rfl fun K hK => ?_
    go_simp
    refine con.mono ?_
    rintro e X16j ⟨rfl, hb⟩
    have B_16j := B_16i.trans (hb.mono B_16i.size)
    replace C5 := C5.on hb
    replace C7 := C7.on hb
    replace C9 := C9.on hb
    clear con hb B_16i
    refine hK _ _ ⟨C5.cell, C7.cell, C9.cell⟩ ?_
    clear hK K
    refine plist #[true, true, true, true, true, true, true, true, true, true, true, true, true, true, true, true, true, true, true, true, true, true, true, true, true, false, false, false, false, false, false, false, false] (by kernel_rfl) ?_
    refine pone 25 (by kernel_rfl) rfl fun K hK => ?_
    go_simp
    refine hK _ _ ⟨C5.cell, C7.cell, C9.cell⟩ ?_
    clear hK K
    refine plist #[true, true, true, true, true, true, true, true, true, true, true, true, true, true, true, true, true, true, true, true, true, true, true, true, true, true, false, false, false, false, false, false, false] (by kernel_rfl) ?_
    cases z1 with
    | true =>
      rewrite [Bool.true_and] at hm
      refine wpAnyH_take (i := 26) (v := (.agg #[.slice q7 n7 c7])) rfl (by kernel_rfl) (by kernel_rfl) (by kernel_rfl) (fun _ _ _ h => h) (.inl ⟨by kernel_rfl, ?_⟩) ⟨C5.cell, C7.cell, C9.cell⟩ ?_
      · rintro w ⟨h1, h2, h3⟩; go_simp <;> omega
      refine plist #[true, true, true, true, true, true, true, true, true, true, true, true, true, true, true, true, true, true, true, true, true, true, true, true, true, true, true, false, false, false, false, false, false] (by kernel_rfl) ?_
      refine wpAnyH_take (i := 27) (v := (.agg #[.slice q5 n5 c5])) rfl (by kernel_rfl) (by kernel_rfl) (by kernel_rfl) (fun _ _ _ h => h) (.inl ⟨by kernel_rfl, ?_⟩) ⟨C5.cell, C7.cell, C9.cell⟩ ?_
      · rintro w ⟨h1, h2, h3⟩; go_simp <;> omega
      refine plist #[true, true, true, true, true, true, true, true, true, true, true, true, true, true, true, true, true, true, true, true, true, true, true, true, true, true, true, true, false, false, false, false, false] (by kernel_rfl) ?_
      have con := (by have c := Implies_any _ _ y x X16j C7.2 C5.2 fy fx; rewrite [HZ2.out] at c; exact c)
      refine pone 28 (by kernel_rfl) rfl fun K hK => ?_
      go_simp
      refine con.mono ?_
      rintro e X16k ⟨rfl, hb⟩
      have B_16k := B_16j.trans (hb.mono B_16j.size)
      replace C5 := C5.on hb
      replace C7 := C7.on hb
      replace C9 := C9.on hb
      clear con hb B_16j
      refine hK _ _ ⟨C5.cell, C7.cell, C9.cell⟩ ?_
      clear hK K
      refine plist #[true, true, true, true, true, true, true, true, true, true, true, true, true, true, true, true, true, true, true, true, true, true, true, true, true, true, true, true, true, false, false, false, false] (by kernel_rfl) ?_
      refine pone 29 (by kernel_rfl) rfl fun K hK => ?_
      go_simp
      refine hK _ _ ⟨C5.cell, C7.cell, C9.cell⟩ ?_
      clear hK K
      refine plist #[true, true, true, true, true, true, true, true, true, true, true, true, true, true, true, true, true, true, true, true, true, true, true, true, true, true, true, true, true, true, false, false, false] (by kernel_rfl) ?_
      refine pone 30 (by kernel_rfl) rfl fun K hK => ?_
      go_simp
      (try rewrite [hm])
      refine hK _ _ ⟨C5.cell, C7.cell, C9.cell⟩ ?_
      clear hK K
      refine plist #[true, true, true, true, true, true, true, true, true, true, true, true, true, true, true, true, true, true, true, true, true, true, true, true, true, true, true, true, true, true, true, false, false] (by kernel_rfl) ?_
      refine pone 31 (by kernel_rfl) rfl fun K hK => ?_
      go_simp
      refine hK _ _ ⟨C5.cell, C7.cell, C9.cell⟩ ?_
      clear hK K
      refine plist #[true, true, true, true, true, true, true, true, true, true, true, true, true, true, true, true, true, true, true, true, true, true, true, true, true, true, true, true, true, true, true, true, false] (by kernel_rfl) ?_
      refine pone 32 (by kernel_rfl) rfl fun K hK => ?_
      go_simp
      refine hK _ _ ⟨C5.cell, C7.cell, C9.cell⟩ ?_
      clear hK K
      refine pdone (by kernel_rfl) ?_ _
      go_wp2
      go_ret
      exact ⟨(by first | rfl | simp), B_16k⟩
    | false =>
      rewrite [Bool.false_and] at hm
      refine wpAnyH_take (i := 26) (v := undef) rfl (by kernel_rfl) (by kernel_rfl) (by kernel_rfl) (fun _ _ _ h => h) (.inr ⟨by kernel_rfl, rfl⟩) ⟨C5.cell, C7.cell, C9.cell⟩ ?_
      refine plist #[true, true, true, true, true, true, true, true, true, true, true, true, true, true, true, true, true, true, true, true, true, true, true, true, true, true, true, false, false, false, false, false, false] (by kernel_rfl) ?_
      refine wpAnyH_take (i := 27) (v := undef) rfl (by kernel_rfl) (by kernel_rfl) (by kernel_rfl) (fun _ _ _ h => h) (.inr ⟨by kernel_rfl, rfl⟩) ⟨C5.cell, C7.cell, C9.cell⟩ ?_
      refine plist #[true, true, true, true, true, true, true, true, true, true, true, true, true, true, true, true, true, true, true, true, true, true, true, true, true, true, true, true, false, false, false, false, false] (by kernel_rfl) ?_
      refine wpAnyH_take (i := 28) (v := undef) rfl (by kernel_rfl) (by kernel_rfl) (by kernel_rfl) (fun _ _ _ h => h) (.inr ⟨by kernel_rfl, rfl⟩) ⟨C5.cell, C7.cell, C9.cell⟩ ?_
      refine plist #[true, true, true, true, true, true, true, true, true, true, true, true, true, true, true, true, true, true, true, true, true, true, true, true, true, true, true, true, true, false, false, false, false] (by kernel_rfl) ?_
      refine pone 29 (by kernel_rfl) rfl fun K hK => ?_
      go_simp
      refine hK _ _ ⟨C5.cell, C7.cell, C9.cell⟩ ?_
      clear hK K
      refine plist #[true, true, true, true, true, true, true, true, true, true, true, true, true, true, true, true, true, true, true, true, true, true, true, true, true, true, true, true, true, true, false, false, false] (by kernel_rfl) ?_
      refine pone 30 (by kernel_rfl) rfl fun K hK => ?_
      go_simp
      (try rewrite [hm])
      refine hK _ _ ⟨C5.cell, C7.cell, C9.cell⟩ ?_
      clear hK K
      refine plist #[true, true, true, true, true, true, true, true, true, true, true, true, true, true, true, true, true, true, true, true, true, true, true, true, true, true, true, true, true, true, true, false, false] (by kernel_rfl) ?_
      refine pone 31 (by kernel_rfl) rfl fun K hK => ?_
      go_simp
      refine hK _ _ ⟨C5.cell, C7.cell, C9.cell⟩ ?_
      clear hK K
      refine plist #[true, true, true, true, true, true, true, true, true, true, true, true, true, true, true, true, true, true, true, true, true, true, true, true, true, true, true, true, true, true, true, true, false] (by kernel_rfl) ?_
      refine pone 32 (by kernel_rfl) rfl fun K hK => ?_
      go_simp
      refine hK _ _ ⟨C5.cell, C7.cell, C9.cell⟩ ?_
      clear hK K
      refine pdone (by kernel_rfl) ?_ _
      go_wp2
      go_ret
      exact ⟨(by first | rfl | simp), B_16j⟩

theorem proved : Rows.ClauseBackCardSaid := card walk
end Go.Proofs.YtfgdikkefgjldaaGreatDoor.clauseBack
