/- PolicyPlain: the law returns true at whatever input, and writes nothing that was there: its tied card. Conditions: none. -/
import Derived.Test.YtedglpfdibamdaaGreatDoorBaseI
import Derived.Deep.DeepCutAuto
namespace Go.Proofs.YtedglpfdibamdaaGreatDoor.policyPlain
open Go.RowKit Go.Shelf Url Org Frm Cls Lbl Pol
attribute [local go_sem] Oper.semAt_some
set_option linter.unusedVariables false

theorem row_by {w : World} {a : Option Addr} {len cap : Nat} {zs : List Int} (h : IsRow .u8 w a len cap zs) : ∃ bs : List UInt8, By w (.slice a len cap) bs := by
  rcases h with ⟨rfl, rfl, rfl, rfl⟩ | ⟨x, rfl, h1, h2, h3, h4, h5⟩
  · exact ⟨[], by_nil w⟩
  · have hz : ∀ i, i < len → (Lib.numsL (Lib.bytesOf (zs.take len))).getD i 0 = zs.getD i 0 := fun i hi => by
      have hi' : i < zs.length := by omega
      have hw := bounds_u8 (h5 _ (List.getElem_mem hi'))
      have : (Lib.bytesOf (zs.take len)).getD i 0 = UInt8.ofNat (zs[i]).toNat := by
        simp [Lib.bytesOf, List.getD, hi, List.getElem?_eq_getElem hi']
      rw [numsL_getD _ _ (by simp [Lib.bytesOf]; omega), this, List.getD, List.getElem?_eq_getElem hi']
      simp only [Option.getD_some, UInt8.toNat_ofNat']
      omega
    refine ⟨Lib.bytesOf (zs.take len), By.of (by simp [Lib.bytesOf]; omega) h1 h2 (fun h => by cases h) (Lib.BytesIn.of_cells fun i hi => ?_)⟩
    rw [hz i hi]
    exact h4 i (by omega)

/-- A block that holds a policy. -/
def PB (B : Nat) (cs : Array Value) (X : World) : Prop := X.heap[B]? = some (.cells cs 38 (0, 0))
theorem PB.box {B : Nat} {cs : Array Value} {X : World} (h : PB B cs X) : Box B cs X := fun i x hx => by
  simp only [World.cell?, show X.heap[B]? = _ from h]; exact hx
theorem PB.on {B : Nat} {cs : Array Value} {X Y : World} (h : PB B cs X) (hk : Below X.heap.size X Y) : PB B cs Y := (hk.block B (Array.getElem?_eq_some_iff.1 h).1).trans h
theorem PB.new (w : World) (cs : Array Value) : PB w.heap.size cs (w.alloc (.cells cs 38)) := World.alloc_heap_new w _

theorem agg_one {a b : Value} (h : Value.agg #[a] = Value.agg #[b]) : a = b := by cases h; rfl
theorem agg_two {a b c d : Value} (h : Value.agg #[a, b] = Value.agg #[c, d]) : a = c ∧ b = d := by cases h; exact ⟨rfl, rfl⟩
/-- A policy's nine slices. -/
theorem pol_form {w : World} {v : Value} {p : PolP} (h : PolIs w v p) : ∃ qdz ndz cdz qdy ndy cdy qcz ncz ccz qcy ncy ccy qrz nrz crz qry nry cry qpz npz cpz qkz nkz ckz qfz nfz cfz, v = .agg #[.slice qdz ndz cdz, .slice qdy ndy cdy, .slice qcz ncz ccz, .slice qcy ncy ccy, .slice qrz nrz crz, .slice qry nry cry, .slice qpz npz cpz, .slice qkz nkz ckz, .slice qfz nfz cfz] ∧ LabIs w (.agg #[.slice qdz ndz cdz, .slice qdy ndy cdy]) p.data ∧ LabIs w (.agg #[.slice qcz ncz ccz, .slice qcy ncy ccy]) p.ctx ∧ LabIs w (.agg #[.slice qrz nrz crz, .slice qry nry cry]) p.clr ∧ FrmIs w (.agg #[.slice qpz npz cpz]) p.prv ∧ SrcsIs w (.agg #[.slice qkz nkz ckz]) p.con ∧ SrcsIs w (.agg #[.slice qfz nfz cfz]) p.frm := by
  obtain ⟨d0, d1, c0, c1, r0, r1, p0, k0, f0, rfl, h1, h2, h3, h4, h5, h6⟩ := h
  obtain ⟨a1, a2, a3, a4, a5, a6, e1, -, -⟩ := id h1
  obtain ⟨b1, b2, b3, b4, b5, b6, e2, -, -⟩ := id h2
  obtain ⟨g1, g2, g3, g4, g5, g6, e3, -, -⟩ := id h3
  obtain ⟨j1, j2, j3, e4⟩ := frm_form h4
  obtain ⟨k1, k2, k3, e5, -, -, -⟩ := id h5
  obtain ⟨l1, l2, l3, e6, -, -, -⟩ := id h6
  obtain ⟨rfl, rfl⟩ := agg_two e1
  obtain ⟨rfl, rfl⟩ := agg_two e2
  obtain ⟨rfl, rfl⟩ := agg_two e3
  obtain rfl := agg_one e4
  obtain rfl := agg_one e5
  obtain rfl := agg_one e6
  exact ⟨_, _, _, _, _, _, _, _, _, _, _, _, _, _, _, _, _, _, _, _, _, _, _, _, _, _, _, rfl, h1, h2, h3, h4, h5, h6⟩
/-- Own of an origin's text: its own privilege, where it is no error and the origin is not closed. -/
theorem single_p (p : List UInt8) : (∃ n : Int, singleR p = .inl n ∧ n ≠ 0) ∨ singleR p = .inr [[p]] := by
  cases h : ofC [p] with
  | inl n => exact .inl ⟨n, by unfold singleR; rw [h], by rcases ofC_no _ _ h with h | h <;> omega⟩
  | inr c =>
    have hk := (of_ok _ c h).1
    have e : c = [p] := by
      unfold ofC at h
      split at h
      · split at h
        · cases h; rfl
        · cases h
      · cases h
    subst e
    exact .inr (by unfold singleR; rw [h]; exact ofF_self _ (one_ok _ hk))
theorem single_nil : frmE (singleR []) = 2 := by decide +kernel
theorem own_is (o : QO) (hO : OkQ o) (h : frmE (singleR (textQ o)) = 0) (hc : (partsQ o).2.2 = 0) : frmV (singleR (textQ o)) = ownF o := by
  cases o with
  | none => rw [show textQ none = [] from rfl, single_nil] at h; exact absurd h (by decide)
  | some x => cases x with
    | inl n =>
      have h1 : 1 ≤ n := hO.1.1
      have h2 : (n : Int) = 0 := hc
      omega
    | inr u =>
      have e : textQ (some (.inr u)) = placeU u := rfl
      rw [e] at h ⊢
      rcases single_p (placeU u) with ⟨n, hs, hn⟩ | hs
      · rw [hs] at h; exact absurd h hn
      · rw [hs]; rfl
theorem own_closed (o : QO) (hc : (partsQ o).2.2 > 0) : ownF o = [] := by
  cases o with
  | none => rfl
  | some x => cases x with
    | inl n => rfl
    | inr u => exact absurd hc (by show ¬ ((0 : Int) > 0); decide)
theorem own_len16 (o : QO) : (ownF o).length ≤ 16 := Nat.le_trans (own_len o) (by decide)
set_option maxRecDepth 100000 in
set_option maxHeartbeats 4000000 in
theorem Text_zero (w : World) : Calls Tryz.prog 11 #[.agg #[.string ⟨#[]⟩, .string ⟨#[]⟩, .int .i64 0, .int .i64 0]] w fun e w' => e = .returned (.string ⟨#[]⟩) ∧ Below w.heap.size w w' := by
  go_enter Tryz.func11, Tryz.ntmps11
  go_wp2
  go_ret
  exact ⟨rfl, below_alloc _⟩
/-- An origin's text. -/
theorem Text_q (o : QO) (h : OkQ o) (w : World) (hG : Gl w) :
    Calls Tryz.prog 11 #[orgQ o] w fun e w' => e = .returned (.string ⟨(textQ o).toArray⟩) ∧ Below w.heap.size w w' := by
  cases o with
  | none => exact Text_zero w
  | some x => rw [← val_orgQ]; exact Text_val x h.1 w hG
theorem text_qlen (o : QO) (h : OkQ o) : (textQ o).length ≤ 1300 := by
  cases o with
  | none => exact Nat.zero_le _
  | some x => exact Nat.le_trans h.2 (by decide)

set_option maxRecDepth 100000 in
set_option maxHeartbeats 64000000 in
theorem walk : Walks := by
  intro a0 len0 cap0 z0 a1 len1 cap1 z1 w w0 w1 hG
  obtain ⟨tA, hA⟩ := row_by w0
  obtain ⟨tB, hB⟩ := row_by w1
  clear w0 w1
  have con := Pol.lives_any w hG
  have HG := Lib.hid hG
  clear hG
  go_enter Tryz.func3, Tryz.ntmps3
  go_wp2_with fail
  refine con.mono ?_
  rintro e X1 ⟨rfl, B_1⟩
  clear con
  replace hA := hA.on B_1
  replace hB := hB.on B_1
  have con := Pol.lawOf_any a0 len0 cap0 tA X1 hA (HG.out.on B_1)
  have HOA := Lib.hid (q_okQ (tA.take 300) (Nat.le_trans (List.length_take_le _ _) (by decide)))
  generalize qOf (parseQ 1099511627776 (tA.take 300)) = oA at con HOA
  obtain ⟨⟨⟨sA, gA⟩, ⟨pA, mA⟩⟩, hp⟩ : ∃ x, partsQ oA = x := ⟨_, rfl⟩
  have HQA := Lib.hid (show orgQ oA = .agg #[.string ⟨sA.toArray⟩, .string ⟨gA.toArray⟩, .int .i64 pA, .int .i64 mA] by unfold orgQ orgV; rw [hp])
  have HMA := Lib.hid (show (partsQ oA).2.2 = mA by rw [hp])
  rw [HQA.out] at con
  clear hA hp
  go_wp2_with fail
  refine con.mono ?_
  rintro e X2 ⟨rfl, hb⟩
  have Bt := B_1.trans (hb.mono B_1.size)
  have hX : Below X2.heap.size X2 ((X2.alloc (.cells #[.string ⟨sA.toArray⟩, .string ⟨gA.toArray⟩, .int .i64 pA, .int .i64 mA] 25)).alloc (.cells #[.string ⟨sA.toArray⟩, .string ⟨gA.toArray⟩, .int .i64 pA, .int .i64 mA] 26)) := ((Below.refl _ X2).alloc (Nat.le_refl _) _).alloc (by simp) _
  have QA : OB X2.heap.size #[.string ⟨sA.toArray⟩, .string ⟨gA.toArray⟩, .int .i64 pA, .int .i64 mA] ((X2.alloc (.cells #[.string ⟨sA.toArray⟩, .string ⟨gA.toArray⟩, .int .i64 pA, .int .i64 mA] 25)).alloc (.cells #[.string ⟨sA.toArray⟩, .string ⟨gA.toArray⟩, .int .i64 pA, .int .i64 mA] 26)) := (OB.new X2 _).on ((Below.refl _ _).alloc (Nat.le_refl _) _)
  have B_3 := Bt.trans (hX.mono Bt.size)
  replace hB := (hB.on hb).on hX
  clear con hb hX Bt B_1
  have con := Pol.lawOf_any a1 len1 cap1 tB ((X2.alloc (.cells #[.string ⟨sA.toArray⟩, .string ⟨gA.toArray⟩, .int .i64 pA, .int .i64 mA] 25)).alloc (.cells #[.string ⟨sA.toArray⟩, .string ⟨gA.toArray⟩, .int .i64 pA, .int .i64 mA] 26)) hB (HG.out.on B_3)
  have HOB := Lib.hid (q_okQ (tB.take 300) (Nat.le_trans (List.length_take_le _ _) (by decide)))
  generalize qOf (parseQ 1099511627776 (tB.take 300)) = oB at con HOB
  obtain ⟨⟨⟨sB, gB⟩, ⟨pB, mB⟩⟩, hp⟩ : ∃ x, partsQ oB = x := ⟨_, rfl⟩
  have HQB := Lib.hid (show orgQ oB = .agg #[.string ⟨sB.toArray⟩, .string ⟨gB.toArray⟩, .int .i64 pB, .int .i64 mB] by unfold orgQ orgV; rw [hp])
  have HMB := Lib.hid (show (partsQ oB).2.2 = mB by rw [hp])
  rw [HQB.out] at con
  clear hB hp
  go_wp2_with fail
  refine con.mono ?_
  rintro e X4 ⟨rfl, hb⟩
  have Bt := B_3.trans (hb.mono B_3.size)
  have hX : Below X4.heap.size X4 ((X4.alloc (.cells #[.string ⟨sB.toArray⟩, .string ⟨gB.toArray⟩, .int .i64 pB, .int .i64 mB] 25)).alloc (.cells #[.string ⟨sB.toArray⟩, .string ⟨gB.toArray⟩, .int .i64 pB, .int .i64 mB] 26)) := ((Below.refl _ X4).alloc (Nat.le_refl _) _).alloc (by simp) _
  have QB : OB X4.heap.size #[.string ⟨sB.toArray⟩, .string ⟨gB.toArray⟩, .int .i64 pB, .int .i64 mB] ((X4.alloc (.cells #[.string ⟨sB.toArray⟩, .string ⟨gB.toArray⟩, .int .i64 pB, .int .i64 mB] 25)).alloc (.cells #[.string ⟨sB.toArray⟩, .string ⟨gB.toArray⟩, .int .i64 pB, .int .i64 mB] 26)) := (OB.new X4 _).on ((Below.refl _ _).alloc (Nat.le_refl _) _)
  have B_5 := Bt.trans (hX.mono Bt.size)
  replace QA := (QA.on hb).on hX
  clear con hb hX Bt B_3
  have con := Plain_any oA ((X4.alloc (.cells #[.string ⟨sB.toArray⟩, .string ⟨gB.toArray⟩, .int .i64 pB, .int .i64 mB] 25)).alloc (.cells #[.string ⟨sB.toArray⟩, .string ⟨gB.toArray⟩, .int .i64 pB, .int .i64 mB] 26)) HOA.out (HG.out.on B_5)
  rw [HQA.out] at con
  have x0 := QA.box 0 _ rfl
  have x1 := QA.box 1 _ rfl
  have x2 := QA.box 2 _ rfl
  have x3 := QA.box 3 _ rfl
  go_wp2_with fail
  refine con.mono ?_
  rintro e X6 ⟨v, rfl, hP, hb⟩
  obtain ⟨qdz, ndz, cdz, qdy, ndy, cdy, qcz, ncz, ccz, qcy, ncy, ccy, qrz, nrz, crz, qry, nry, cry, qpz, npz, cpz, qkz, nkz, ckz, qfz, nfz, cfz, rfl, i1, i2, i3, i4, i5, i6⟩ := pol_form hP
  have Bt := B_5.trans (hb.mono B_5.size)
  have hX : Below X6.heap.size X6 ((X6.alloc (.cells #[.slice qdz ndz cdz, .slice qdy ndy cdy, .slice qcz ncz ccz, .slice qcy ncy ccy, .slice qrz nrz crz, .slice qry nry cry, .slice qpz npz cpz, .slice qkz nkz ckz, .slice qfz nfz cfz] 38)).alloc (.cells #[.slice none 0 0] 42)) := ((Below.refl _ X6).alloc (Nat.le_refl _) _).alloc (by simp) _
  have PA : PB X6.heap.size #[.slice qdz ndz cdz, .slice qdy ndy cdy, .slice qcz ncz ccz, .slice qcy ncy ccy, .slice qrz nrz crz, .slice qry nry cry, .slice qpz npz cpz, .slice qkz nkz ckz, .slice qfz nfz cfz] ((X6.alloc (.cells #[.slice qdz ndz cdz, .slice qdy ndy cdy, .slice qcz ncz ccz, .slice qcy ncy ccy, .slice qrz nrz crz, .slice qry nry cry, .slice qpz npz cpz, .slice qkz nkz ckz, .slice qfz nfz cfz] 38)).alloc (.cells #[.slice none 0 0] 42)) := (PB.new X6 _).on ((Below.refl _ _).alloc (Nat.le_refl _) _)
  have B_8 := Bt.trans (hX.mono Bt.size)
  replace QA := (QA.on hb).on hX
  replace QB := (QB.on hb).on hX
  replace i1 := i1.below hX
  replace i2 := i2.below hX
  replace i3 := i3.below hX
  replace i4 := i4.below hX
  replace i5 := i5.below hX
  replace i6 := i6.below hX
  clear con hb hX Bt B_5 x0 x1 x2 x3 hP
  have con := Pol.Of_any 0 none 0 0 [] oA ((X6.alloc (.cells #[.slice qdz ndz cdz, .slice qdy ndy cdy, .slice qcz ncz ccz, .slice qcy ncy ccy, .slice qrz nrz crz, .slice qry nry cry, .slice qpz npz cpz, .slice qkz nkz ckz, .slice qfz nfz cfz] 38)).alloc (.cells #[.slice none 0 0] 42)) (Hdr.HdrIn.nil _ _) (by decide) (fun f hf => by cases hf) HOA.out (HG.out.on B_8)
  rw [HQA.out, of_nil] at con
  have x0 := QA.box 0 _ rfl
  have x1 := QA.box 1 _ rfl
  have x2 := QA.box 2 _ rfl
  have x3 := QA.box 3 _ rfl
  go_wp2_with fail
  refine con.mono ?_
  rintro e X9 ⟨v, rfl, hP, hb⟩
  obtain ⟨qdzj, ndzj, cdzj, qdyj, ndyj, cdyj, qczj, nczj, cczj, qcyj, ncyj, ccyj, qrzj, nrzj, crzj, qryj, nryj, cryj, qpzj, npzj, cpzj, qkzj, nkzj, ckzj, qfzj, nfzj, cfzj, rfl, -, -, -, j4, j5, -⟩ := pol_form hP
  have Bt := B_8.trans (hb.mono B_8.size)
  have hX : Below X9.heap.size X9 (X9.alloc (.cells #[.slice qdzj ndzj cdzj, .slice qdyj ndyj cdyj, .slice qczj nczj cczj, .slice qcyj ncyj ccyj, .slice qrzj nrzj crzj, .slice qryj nryj cryj, .slice qpzj npzj cpzj, .slice qkzj nkzj ckzj, .slice qfzj nfzj cfzj] 38)) := (Below.refl _ X9).alloc (Nat.le_refl _) _
  have PQ := PB.new X9 #[.slice qdzj ndzj cdzj, .slice qdyj ndyj cdyj, .slice qczj nczj cczj, .slice qcyj ncyj ccyj, .slice qrzj nrzj crzj, .slice qryj nryj cryj, .slice qpzj npzj cpzj, .slice qkzj nkzj ckzj, .slice qfzj nfzj cfzj]
  have B_10 := Bt.trans (hX.mono Bt.size)
  replace QA := (QA.on hb).on hX
  replace QB := (QB.on hb).on hX
  replace PA := (PA.on hb).on hX
  replace i1 := (i1.below hb).below hX
  replace i2 := (i2.below hb).below hX
  replace i3 := (i3.below hb).below hX
  replace i4 := (i4.below hb).below hX
  replace i5 := (i5.below hb).below hX
  replace i6 := (i6.below hb).below hX
  replace j4 := j4.below hX
  replace j5 := j5.below hX
  clear con hb hX Bt B_8 x0 x1 x2 x3 hP
  simp only [Pol.pE, Pol.pV] at j4 j5 ⊢
  have con := Text_q oA HOA.out (X9.alloc (.cells #[.slice qdzj ndzj cdzj, .slice qdyj ndyj cdyj, .slice qczj nczj cczj, .slice qcyj ncyj ccyj, .slice qrzj nrzj crzj, .slice qryj nryj cryj, .slice qpzj npzj cpzj, .slice qkzj nkzj ckzj, .slice qfzj nfzj cfzj] 38)) (HG.out.on B_10)
  rw [HQA.out] at con
  have HTL := Lib.hid (text_qlen oA HOA.out)
  have x0 := QA.box 0 _ rfl
  have x1 := QA.box 1 _ rfl
  have x2 := QA.box 2 _ rfl
  have x3 := QA.box 3 _ rfl
  go_wp2_with fail
  refine con.mono ?_
  rintro e X11 ⟨rfl, hb⟩
  have Bt := B_10.trans (hb.mono B_10.size)
  replace QA := QA.on hb
  replace QB := QB.on hb
  replace PA := PA.on hb
  replace PQ := PQ.on hb
  replace i1 := i1.below hb
  replace i2 := i2.below hb
  replace i3 := i3.below hb
  replace i4 := i4.below hb
  replace i5 := i5.below hb
  replace i6 := i6.below hb
  replace j4 := j4.below hb
  replace j5 := j5.below hb
  clear con hb B_10 x0 x1 x2 x3
  have con := Prv.Own_any (textQ oA) X11 HTL.out (HG.out.on Bt)
  have HOI := Lib.hid (fun h1 h2 => own_is oA HOA.out h1 h2)
  obtain ⟨fn, hfn⟩ : ∃ e, frmE (singleR (textQ oA)) = e := ⟨_, rfl⟩
  obtain ⟨fv, hfv⟩ : ∃ e, frmV (singleR (textQ oA)) = e := ⟨_, rfl⟩
  unfold FrmOut at con
  rw [hfn, hfv] at con
  rw [hfn, hfv] at HOI
  clear hfn hfv
  go_wp2_with fail
  refine con.mono ?_
  rintro e X12 ⟨qo, no, co, rfl, hF, -, hb⟩
  have hX : Below X12.heap.size X12 (X12.alloc (.cells #[.slice qo no co] 31)) := (Below.refl _ X12).alloc (Nat.le_refl _) _
  have FO := Boxed.new X12 31 (.slice qo no co)
  have A := (Bt.trans (hb.mono Bt.size)).trans (hX.mono (Bt.trans (hb.mono Bt.size)).size)
  replace hb := hb.trans (hX.mono hb.size)
  replace hF := hF.below hX
  clear con hX Bt
  replace QA := QA.on hb
  replace QB := QB.on hb
  replace PA := PA.on hb
  replace PQ := PQ.on hb
  replace i1 := i1.below hb
  replace i2 := i2.below hb
  replace i3 := i3.below hb
  replace i4 := i4.below hb
  replace i5 := i5.below hb
  replace i6 := i6.below hb
  replace j4 := j4.below hb
  replace j5 := j5.below hb
  clear hb
  obtain ⟨W, hW⟩ : ∃ Z, (X12.alloc (.cells #[.slice qo no co] 31)).drew = Z := ⟨_, rfl⟩
  have hb : Below (X12.alloc (.cells #[.slice qo no co] 31)).heap.size (X12.alloc (.cells #[.slice qo no co] 31)) W := hW ▸ ⟨rfl, rfl, rfl, Nat.le_refl _, fun _ _ => rfl⟩
  have A2 := A.trans (hb.mono A.size)
  clear A
  have A := A2
  clear A2
  replace QA := QA.on hb
  replace QB := QB.on hb
  replace PA := PA.on hb
  replace PQ := PQ.on hb
  replace i1 := i1.below hb
  replace i2 := i2.below hb
  replace i3 := i3.below hb
  replace i4 := i4.below hb
  replace i5 := i5.below hb
  replace i6 := i6.below hb
  replace j4 := j4.below hb
  replace j5 := j5.below hb
  replace hF := hF.below hb
  replace FO := (Keep.of_below hb).boxed FO FO.lt
  have HW := Lib.hid hW
  clear hW hb
  go_wp2_with fail
  refine pregion_any (fun X => (X.cell? ⟨X6.heap.size, 0, none⟩ = some (.slice qdz ndz cdz) ∧ X.cell? ⟨X6.heap.size, 1, none⟩ = some (.slice qdy ndy cdy) ∧ X.cell? ⟨X6.heap.size, 2, none⟩ = some (.slice qcz ncz ccz) ∧ X.cell? ⟨X6.heap.size, 3, none⟩ = some (.slice qcy ncy ccy) ∧ X.cell? ⟨X6.heap.size, 4, none⟩ = some (.slice qrz nrz crz) ∧ X.cell? ⟨X6.heap.size, 5, none⟩ = some (.slice qry nry cry) ∧ X.cell? ⟨X6.heap.size, 6, none⟩ = some (.slice qpz npz cpz) ∧ X.cell? ⟨X6.heap.size, 8, none⟩ = some (.slice qfz nfz cfz)) ∧ X.cell? ⟨X9.heap.size, 6, none⟩ = some (.slice qpzj npzj cpzj) ∧ X.cell? ⟨X9.heap.size, 7, none⟩ = some (.slice qkzj nkzj ckzj)) (by kernel_rfl) ?_
  rw [HW.out]
  refine wpAnyH_take (i := 0) (v := (.int .i64 0)) rfl (by kernel_rfl) (by kernel_rfl) (by kernel_rfl) (fun _ _ _ h => h) (.inl ⟨by kernel_rfl, ?_⟩) ⟨⟨PA.box 0 _ rfl, PA.box 1 _ rfl, PA.box 2 _ rfl, PA.box 3 _ rfl, PA.box 4 _ rfl, PA.box 5 _ rfl, PA.box 6 _ rfl, PA.box 8 _ rfl⟩, PQ.box 6 _ rfl, PQ.box 7 _ rfl⟩ ?_
  · rintro w ⟨⟨h1, h2, h3, h4, h5, h6, h7, h8⟩, h9, h10⟩; go_simp <;> omega
  refine plist #[true, false, false, false, false, false, false, false, false, false, false, false, false, false, false, false, false, false, false, false, false, false, false, false, false, false, false, false, false, false, false, false, false, false, false, false, false, false, false, false, false, false, false] (by kernel_rfl) ?_
  refine wpAnyH_take (i := 1) (v := (.bool false)) rfl (by kernel_rfl) (by kernel_rfl) (by kernel_rfl) (fun _ _ _ h => h) (.inl ⟨by kernel_rfl, ?_⟩) ⟨⟨PA.box 0 _ rfl, PA.box 1 _ rfl, PA.box 2 _ rfl, PA.box 3 _ rfl, PA.box 4 _ rfl, PA.box 5 _ rfl, PA.box 6 _ rfl, PA.box 8 _ rfl⟩, PQ.box 6 _ rfl, PQ.box 7 _ rfl⟩ ?_
  · rintro w ⟨⟨h1, h2, h3, h4, h5, h6, h7, h8⟩, h9, h10⟩; go_simp <;> omega
  refine plist #[true, true, false, false, false, false, false, false, false, false, false, false, false, false, false, false, false, false, false, false, false, false, false, false, false, false, false, false, false, false, false, false, false, false, false, false, false, false, false, false, false, false, false] (by kernel_rfl) ?_
  refine wpAnyH_take (i := 2) (v := (.bool false)) rfl (by kernel_rfl) (by kernel_rfl) (by kernel_rfl) (fun _ _ _ h => h) (.inl ⟨by kernel_rfl, ?_⟩) ⟨⟨PA.box 0 _ rfl, PA.box 1 _ rfl, PA.box 2 _ rfl, PA.box 3 _ rfl, PA.box 4 _ rfl, PA.box 5 _ rfl, PA.box 6 _ rfl, PA.box 8 _ rfl⟩, PQ.box 6 _ rfl, PQ.box 7 _ rfl⟩ ?_
  · rintro w ⟨⟨h1, h2, h3, h4, h5, h6, h7, h8⟩, h9, h10⟩; go_simp <;> omega
  refine plist #[true, true, true, false, false, false, false, false, false, false, false, false, false, false, false, false, false, false, false, false, false, false, false, false, false, false, false, false, false, false, false, false, false, false, false, false, false, false, false, false, false, false, false] (by kernel_rfl) ?_
  refine wpAnyH_take (i := 3) (v := (.pointer (some ⟨X6.heap.size, 0, none⟩))) rfl (by kernel_rfl) (by kernel_rfl) (by kernel_rfl) (fun _ _ _ h => h) (.inl ⟨by kernel_rfl, ?_⟩) ⟨⟨PA.box 0 _ rfl, PA.box 1 _ rfl, PA.box 2 _ rfl, PA.box 3 _ rfl, PA.box 4 _ rfl, PA.box 5 _ rfl, PA.box 6 _ rfl, PA.box 8 _ rfl⟩, PQ.box 6 _ rfl, PQ.box 7 _ rfl⟩ ?_
  · rintro w ⟨⟨h1, h2, h3, h4, h5, h6, h7, h8⟩, h9, h10⟩; go_simp <;> omega
  refine plist #[true, true, true, true, false, false, false, false, false, false, false, false, false, false, false, false, false, false, false, false, false, false, false, false, false, false, false, false, false, false, false, false, false, false, false, false, false, false, false, false, false, false, false] (by kernel_rfl) ?_
  refine wpAnyH_take (i := 4) (v := (.agg #[.slice qdz ndz cdz, .slice qdy ndy cdy])) rfl (by kernel_rfl) (by kernel_rfl) (by kernel_rfl) (fun _ _ _ h => h) (.inl ⟨by kernel_rfl, ?_⟩) ⟨⟨PA.box 0 _ rfl, PA.box 1 _ rfl, PA.box 2 _ rfl, PA.box 3 _ rfl, PA.box 4 _ rfl, PA.box 5 _ rfl, PA.box 6 _ rfl, PA.box 8 _ rfl⟩, PQ.box 6 _ rfl, PQ.box 7 _ rfl⟩ ?_
  · rintro w ⟨⟨h1, h2, h3, h4, h5, h6, h7, h8⟩, h9, h10⟩; go_simp <;> omega
  refine plist #[true, true, true, true, true, false, false, false, false, false, false, false, false, false, false, false, false, false, false, false, false, false, false, false, false, false, false, false, false, false, false, false, false, false, false, false, false, false, false, false, false, false, false] (by kernel_rfl) ?_
  have con := Lbl.Open_any W
  refine pone 5 (by kernel_rfl) rfl fun K hK => ?_
  go_simp
  refine con.mono ?_
  rintro e W5 ⟨vo, rfl, ho, hb⟩
  have A2 := A.trans (hb.mono A.size)
  clear A
  have A := A2
  clear A2
  replace QA := QA.on hb
  replace QB := QB.on hb
  replace PA := PA.on hb
  replace PQ := PQ.on hb
  replace i1 := i1.below hb
  replace i2 := i2.below hb
  replace i3 := i3.below hb
  replace i4 := i4.below hb
  replace i5 := i5.below hb
  replace i6 := i6.below hb
  replace j4 := j4.below hb
  replace j5 := j5.below hb
  replace hF := hF.below hb
  replace FO := (Keep.of_below hb).boxed FO FO.lt
  clear con hb 
  refine hK _ _ ⟨⟨PA.box 0 _ rfl, PA.box 1 _ rfl, PA.box 2 _ rfl, PA.box 3 _ rfl, PA.box 4 _ rfl, PA.box 5 _ rfl, PA.box 6 _ rfl, PA.box 8 _ rfl⟩, PQ.box 6 _ rfl, PQ.box 7 _ rfl⟩ ?_
  clear hK K
  refine plist #[true, true, true, true, true, true, false, false, false, false, false, false, false, false, false, false, false, false, false, false, false, false, false, false, false, false, false, false, false, false, false, false, false, false, false, false, false, false, false, false, false, false, false] (by kernel_rfl) ?_
  have con := Lbl.Same_any _ _ (⟨[], []⟩ : Lab) (⟨[], []⟩ : Lab) _ i1 ho ⟨by decide, by decide⟩ ⟨by decide, by decide⟩
  rw [show sameB (⟨[], []⟩ : Lab) (⟨[], []⟩ : Lab) = true by decide +kernel] at con
  refine pone 6 (by kernel_rfl) rfl fun K hK => ?_
  go_simp
  refine con.mono ?_
  rintro e W6 ⟨rfl, hb⟩
  have A2 := A.trans (hb.mono A.size)
  clear A
  have A := A2
  clear A2
  replace QA := QA.on hb
  replace QB := QB.on hb
  replace PA := PA.on hb
  replace PQ := PQ.on hb
  replace i1 := i1.below hb
  replace i2 := i2.below hb
  replace i3 := i3.below hb
  replace i4 := i4.below hb
  replace i5 := i5.below hb
  replace i6 := i6.below hb
  replace j4 := j4.below hb
  replace j5 := j5.below hb
  replace hF := hF.below hb
  replace FO := (Keep.of_below hb).boxed FO FO.lt
  clear con hb ho
  refine hK _ _ ⟨⟨PA.box 0 _ rfl, PA.box 1 _ rfl, PA.box 2 _ rfl, PA.box 3 _ rfl, PA.box 4 _ rfl, PA.box 5 _ rfl, PA.box 6 _ rfl, PA.box 8 _ rfl⟩, PQ.box 6 _ rfl, PQ.box 7 _ rfl⟩ ?_
  clear hK K
  refine plist #[true, true, true, true, true, true, true, false, false, false, false, false, false, false, false, false, false, false, false, false, false, false, false, false, false, false, false, false, false, false, false, false, false, false, false, false, false, false, false, false, false, false, false] (by kernel_rfl) ?_
  refine wpAnyH_take (i := 7) (v := (.bool false)) rfl (by kernel_rfl) (by kernel_rfl) (by kernel_rfl) (fun _ _ _ h => h) (.inl ⟨by kernel_rfl, ?_⟩) ⟨⟨PA.box 0 _ rfl, PA.box 1 _ rfl, PA.box 2 _ rfl, PA.box 3 _ rfl, PA.box 4 _ rfl, PA.box 5 _ rfl, PA.box 6 _ rfl, PA.box 8 _ rfl⟩, PQ.box 6 _ rfl, PQ.box 7 _ rfl⟩ ?_
  · rintro w ⟨⟨h1, h2, h3, h4, h5, h6, h7, h8⟩, h9, h10⟩; go_simp <;> omega
  refine plist #[true, true, true, true, true, true, true, true, false, false, false, false, false, false, false, false, false, false, false, false, false, false, false, false, false, false, false, false, false, false, false, false, false, false, false, false, false, false, false, false, false, false, false] (by kernel_rfl) ?_
  refine wpAnyH_take (i := 8) (v := (.bool false)) rfl (by kernel_rfl) (by kernel_rfl) (by kernel_rfl) (fun _ _ _ h => h) (.inl ⟨by kernel_rfl, ?_⟩) ⟨⟨PA.box 0 _ rfl, PA.box 1 _ rfl, PA.box 2 _ rfl, PA.box 3 _ rfl, PA.box 4 _ rfl, PA.box 5 _ rfl, PA.box 6 _ rfl, PA.box 8 _ rfl⟩, PQ.box 6 _ rfl, PQ.box 7 _ rfl⟩ ?_
  · rintro w ⟨⟨h1, h2, h3, h4, h5, h6, h7, h8⟩, h9, h10⟩; go_simp <;> omega
  refine plist #[true, true, true, true, true, true, true, true, true, false, false, false, false, false, false, false, false, false, false, false, false, false, false, false, false, false, false, false, false, false, false, false, false, false, false, false, false, false, false, false, false, false, false] (by kernel_rfl) ?_
  refine wpAnyH_take (i := 9) (v := (.bool false)) rfl (by kernel_rfl) (by kernel_rfl) (by kernel_rfl) (fun _ _ _ h => h) (.inl ⟨by kernel_rfl, ?_⟩) ⟨⟨PA.box 0 _ rfl, PA.box 1 _ rfl, PA.box 2 _ rfl, PA.box 3 _ rfl, PA.box 4 _ rfl, PA.box 5 _ rfl, PA.box 6 _ rfl, PA.box 8 _ rfl⟩, PQ.box 6 _ rfl, PQ.box 7 _ rfl⟩ ?_
  · rintro w ⟨⟨h1, h2, h3, h4, h5, h6, h7, h8⟩, h9, h10⟩; go_simp <;> omega
  refine plist #[true, true, true, true, true, true, true, true, true, true, false, false, false, false, false, false, false, false, false, false, false, false, false, false, false, false, false, false, false, false, false, false, false, false, false, false, false, false, false, false, false, false, false] (by kernel_rfl) ?_
  refine wpAnyH_take (i := 10) (v := (.pointer (some ⟨X6.heap.size, 2, none⟩))) rfl (by kernel_rfl) (by kernel_rfl) (by kernel_rfl) (fun _ _ _ h => h) (.inl ⟨by kernel_rfl, ?_⟩) ⟨⟨PA.box 0 _ rfl, PA.box 1 _ rfl, PA.box 2 _ rfl, PA.box 3 _ rfl, PA.box 4 _ rfl, PA.box 5 _ rfl, PA.box 6 _ rfl, PA.box 8 _ rfl⟩, PQ.box 6 _ rfl, PQ.box 7 _ rfl⟩ ?_
  · rintro w ⟨⟨h1, h2, h3, h4, h5, h6, h7, h8⟩, h9, h10⟩; go_simp <;> omega
  refine plist #[true, true, true, true, true, true, true, true, true, true, true, false, false, false, false, false, false, false, false, false, false, false, false, false, false, false, false, false, false, false, false, false, false, false, false, false, false, false, false, false, false, false, false] (by kernel_rfl) ?_
  refine wpAnyH_take (i := 11) (v := (.agg #[.slice qcz ncz ccz, .slice qcy ncy ccy])) rfl (by kernel_rfl) (by kernel_rfl) (by kernel_rfl) (fun _ _ _ h => h) (.inl ⟨by kernel_rfl, ?_⟩) ⟨⟨PA.box 0 _ rfl, PA.box 1 _ rfl, PA.box 2 _ rfl, PA.box 3 _ rfl, PA.box 4 _ rfl, PA.box 5 _ rfl, PA.box 6 _ rfl, PA.box 8 _ rfl⟩, PQ.box 6 _ rfl, PQ.box 7 _ rfl⟩ ?_
  · rintro w ⟨⟨h1, h2, h3, h4, h5, h6, h7, h8⟩, h9, h10⟩; go_simp <;> omega
  refine plist #[true, true, true, true, true, true, true, true, true, true, true, true, false, false, false, false, false, false, false, false, false, false, false, false, false, false, false, false, false, false, false, false, false, false, false, false, false, false, false, false, false, false, false] (by kernel_rfl) ?_
  have con := Lbl.Open_any W6
  refine pone 12 (by kernel_rfl) rfl fun K hK => ?_
  go_simp
  refine con.mono ?_
  rintro e W12 ⟨vo, rfl, ho, hb⟩
  have A2 := A.trans (hb.mono A.size)
  clear A
  have A := A2
  clear A2
  replace QA := QA.on hb
  replace QB := QB.on hb
  replace PA := PA.on hb
  replace PQ := PQ.on hb
  replace i1 := i1.below hb
  replace i2 := i2.below hb
  replace i3 := i3.below hb
  replace i4 := i4.below hb
  replace i5 := i5.below hb
  replace i6 := i6.below hb
  replace j4 := j4.below hb
  replace j5 := j5.below hb
  replace hF := hF.below hb
  replace FO := (Keep.of_below hb).boxed FO FO.lt
  clear con hb 
  refine hK _ _ ⟨⟨PA.box 0 _ rfl, PA.box 1 _ rfl, PA.box 2 _ rfl, PA.box 3 _ rfl, PA.box 4 _ rfl, PA.box 5 _ rfl, PA.box 6 _ rfl, PA.box 8 _ rfl⟩, PQ.box 6 _ rfl, PQ.box 7 _ rfl⟩ ?_
  clear hK K
  refine plist #[true, true, true, true, true, true, true, true, true, true, true, true, true, false, false, false, false, false, false, false, false, false, false, false, false, false, false, false, false, false, false, false, false, false, false, false, false, false, false, false, false, false, false] (by kernel_rfl) ?_
  have con := Lbl.Same_any _ _ (⟨[], []⟩ : Lab) (⟨[], []⟩ : Lab) _ i2 ho ⟨by decide, by decide⟩ ⟨by decide, by decide⟩
  rw [show sameB (⟨[], []⟩ : Lab) (⟨[], []⟩ : Lab) = true by decide +kernel] at con
  refine pone 13 (by kernel_rfl) rfl fun K hK => ?_
  go_simp
  refine con.mono ?_
  rintro e W13 ⟨rfl, hb⟩
  have A2 := A.trans (hb.mono A.size)
  clear A
  have A := A2
  clear A2
  replace QA := QA.on hb
  replace QB := QB.on hb
  replace PA := PA.on hb
  replace PQ := PQ.on hb
  replace i1 := i1.below hb
  replace i2 := i2.below hb
  replace i3 := i3.below hb
  replace i4 := i4.below hb
  replace i5 := i5.below hb
  replace i6 := i6.below hb
  replace j4 := j4.below hb
  replace j5 := j5.below hb
  replace hF := hF.below hb
  replace FO := (Keep.of_below hb).boxed FO FO.lt
  clear con hb ho
  refine hK _ _ ⟨⟨PA.box 0 _ rfl, PA.box 1 _ rfl, PA.box 2 _ rfl, PA.box 3 _ rfl, PA.box 4 _ rfl, PA.box 5 _ rfl, PA.box 6 _ rfl, PA.box 8 _ rfl⟩, PQ.box 6 _ rfl, PQ.box 7 _ rfl⟩ ?_
  clear hK K
  refine plist #[true, true, true, true, true, true, true, true, true, true, true, true, true, true, false, false, false, false, false, false, false, false, false, false, false, false, false, false, false, false, false, false, false, false, false, false, false, false, false, false, false, false, false] (by kernel_rfl) ?_
  refine wpAnyH_take (i := 14) (v := (.bool false)) rfl (by kernel_rfl) (by kernel_rfl) (by kernel_rfl) (fun _ _ _ h => h) (.inl ⟨by kernel_rfl, ?_⟩) ⟨⟨PA.box 0 _ rfl, PA.box 1 _ rfl, PA.box 2 _ rfl, PA.box 3 _ rfl, PA.box 4 _ rfl, PA.box 5 _ rfl, PA.box 6 _ rfl, PA.box 8 _ rfl⟩, PQ.box 6 _ rfl, PQ.box 7 _ rfl⟩ ?_
  · rintro w ⟨⟨h1, h2, h3, h4, h5, h6, h7, h8⟩, h9, h10⟩; go_simp <;> omega
  refine plist #[true, true, true, true, true, true, true, true, true, true, true, true, true, true, true, false, false, false, false, false, false, false, false, false, false, false, false, false, false, false, false, false, false, false, false, false, false, false, false, false, false, false, false] (by kernel_rfl) ?_
  refine wpAnyH_take (i := 15) (v := (.bool false)) rfl (by kernel_rfl) (by kernel_rfl) (by kernel_rfl) (fun _ _ _ h => h) (.inl ⟨by kernel_rfl, ?_⟩) ⟨⟨PA.box 0 _ rfl, PA.box 1 _ rfl, PA.box 2 _ rfl, PA.box 3 _ rfl, PA.box 4 _ rfl, PA.box 5 _ rfl, PA.box 6 _ rfl, PA.box 8 _ rfl⟩, PQ.box 6 _ rfl, PQ.box 7 _ rfl⟩ ?_
  · rintro w ⟨⟨h1, h2, h3, h4, h5, h6, h7, h8⟩, h9, h10⟩; go_simp <;> omega
  refine plist #[true, true, true, true, true, true, true, true, true, true, true, true, true, true, true, true, false, false, false, false, false, false, false, false, false, false, false, false, false, false, false, false, false, false, false, false, false, false, false, false, false, false, false] (by kernel_rfl) ?_
  refine wpAnyH_take (i := 16) (v := (.bool false)) rfl (by kernel_rfl) (by kernel_rfl) (by kernel_rfl) (fun _ _ _ h => h) (.inl ⟨by kernel_rfl, ?_⟩) ⟨⟨PA.box 0 _ rfl, PA.box 1 _ rfl, PA.box 2 _ rfl, PA.box 3 _ rfl, PA.box 4 _ rfl, PA.box 5 _ rfl, PA.box 6 _ rfl, PA.box 8 _ rfl⟩, PQ.box 6 _ rfl, PQ.box 7 _ rfl⟩ ?_
  · rintro w ⟨⟨h1, h2, h3, h4, h5, h6, h7, h8⟩, h9, h10⟩; go_simp <;> omega
  refine plist #[true, true, true, true, true, true, true, true, true, true, true, true, true, true, true, true, true, false, false, false, false, false, false, false, false, false, false, false, false, false, false, false, false, false, false, false, false, false, false, false, false, false, false] (by kernel_rfl) ?_
  refine wpAnyH_take (i := 17) (v := (.pointer (some ⟨X6.heap.size, 4, none⟩))) rfl (by kernel_rfl) (by kernel_rfl) (by kernel_rfl) (fun _ _ _ h => h) (.inl ⟨by kernel_rfl, ?_⟩) ⟨⟨PA.box 0 _ rfl, PA.box 1 _ rfl, PA.box 2 _ rfl, PA.box 3 _ rfl, PA.box 4 _ rfl, PA.box 5 _ rfl, PA.box 6 _ rfl, PA.box 8 _ rfl⟩, PQ.box 6 _ rfl, PQ.box 7 _ rfl⟩ ?_
  · rintro w ⟨⟨h1, h2, h3, h4, h5, h6, h7, h8⟩, h9, h10⟩; go_simp <;> omega
  refine plist #[true, true, true, true, true, true, true, true, true, true, true, true, true, true, true, true, true, true, false, false, false, false, false, false, false, false, false, false, false, false, false, false, false, false, false, false, false, false, false, false, false, false, false] (by kernel_rfl) ?_
  refine wpAnyH_take (i := 18) (v := (.agg #[.slice qrz nrz crz, .slice qry nry cry])) rfl (by kernel_rfl) (by kernel_rfl) (by kernel_rfl) (fun _ _ _ h => h) (.inl ⟨by kernel_rfl, ?_⟩) ⟨⟨PA.box 0 _ rfl, PA.box 1 _ rfl, PA.box 2 _ rfl, PA.box 3 _ rfl, PA.box 4 _ rfl, PA.box 5 _ rfl, PA.box 6 _ rfl, PA.box 8 _ rfl⟩, PQ.box 6 _ rfl, PQ.box 7 _ rfl⟩ ?_
  · rintro w ⟨⟨h1, h2, h3, h4, h5, h6, h7, h8⟩, h9, h10⟩; go_simp <;> omega
  refine plist #[true, true, true, true, true, true, true, true, true, true, true, true, true, true, true, true, true, true, true, false, false, false, false, false, false, false, false, false, false, false, false, false, false, false, false, false, false, false, false, false, false, false, false] (by kernel_rfl) ?_
  have con := Lbl.Shut_any W13
  refine pone 19 (by kernel_rfl) rfl fun K hK => ?_
  go_simp
  refine con.mono ?_
  rintro e W19 ⟨vo, rfl, ho, hb⟩
  have A2 := A.trans (hb.mono A.size)
  clear A
  have A := A2
  clear A2
  replace QA := QA.on hb
  replace QB := QB.on hb
  replace PA := PA.on hb
  replace PQ := PQ.on hb
  replace i1 := i1.below hb
  replace i2 := i2.below hb
  replace i3 := i3.below hb
  replace i4 := i4.below hb
  replace i5 := i5.below hb
  replace i6 := i6.below hb
  replace j4 := j4.below hb
  replace j5 := j5.below hb
  replace hF := hF.below hb
  replace FO := (Keep.of_below hb).boxed FO FO.lt
  clear con hb 
  refine hK _ _ ⟨⟨PA.box 0 _ rfl, PA.box 1 _ rfl, PA.box 2 _ rfl, PA.box 3 _ rfl, PA.box 4 _ rfl, PA.box 5 _ rfl, PA.box 6 _ rfl, PA.box 8 _ rfl⟩, PQ.box 6 _ rfl, PQ.box 7 _ rfl⟩ ?_
  clear hK K
  refine plist #[true, true, true, true, true, true, true, true, true, true, true, true, true, true, true, true, true, true, true, true, false, false, false, false, false, false, false, false, false, false, false, false, false, false, false, false, false, false, false, false, false, false, false] (by kernel_rfl) ?_
  have con := Lbl.Same_any _ _ (⟨[[]], []⟩ : Lab) (⟨[[]], []⟩ : Lab) _ i3 ho ⟨by decide, by decide⟩ ⟨by decide, by decide⟩
  rw [show sameB (⟨[[]], []⟩ : Lab) (⟨[[]], []⟩ : Lab) = true by decide +kernel] at con
  refine pone 20 (by kernel_rfl) rfl fun K hK => ?_
  go_simp
  refine con.mono ?_
  rintro e W20 ⟨rfl, hb⟩
  have A2 := A.trans (hb.mono A.size)
  clear A
  have A := A2
  clear A2
  replace QA := QA.on hb
  replace QB := QB.on hb
  replace PA := PA.on hb
  replace PQ := PQ.on hb
  replace i1 := i1.below hb
  replace i2 := i2.below hb
  replace i3 := i3.below hb
  replace i4 := i4.below hb
  replace i5 := i5.below hb
  replace i6 := i6.below hb
  replace j4 := j4.below hb
  replace j5 := j5.below hb
  replace hF := hF.below hb
  replace FO := (Keep.of_below hb).boxed FO FO.lt
  clear con hb ho
  refine hK _ _ ⟨⟨PA.box 0 _ rfl, PA.box 1 _ rfl, PA.box 2 _ rfl, PA.box 3 _ rfl, PA.box 4 _ rfl, PA.box 5 _ rfl, PA.box 6 _ rfl, PA.box 8 _ rfl⟩, PQ.box 6 _ rfl, PQ.box 7 _ rfl⟩ ?_
  clear hK K
  refine plist #[true, true, true, true, true, true, true, true, true, true, true, true, true, true, true, true, true, true, true, true, true, false, false, false, false, false, false, false, false, false, false, false, false, false, false, false, false, false, false, false, false, false, false] (by kernel_rfl) ?_
  refine wpAnyH_take (i := 21) (v := (.bool false)) rfl (by kernel_rfl) (by kernel_rfl) (by kernel_rfl) (fun _ _ _ h => h) (.inl ⟨by kernel_rfl, ?_⟩) ⟨⟨PA.box 0 _ rfl, PA.box 1 _ rfl, PA.box 2 _ rfl, PA.box 3 _ rfl, PA.box 4 _ rfl, PA.box 5 _ rfl, PA.box 6 _ rfl, PA.box 8 _ rfl⟩, PQ.box 6 _ rfl, PQ.box 7 _ rfl⟩ ?_
  · rintro w ⟨⟨h1, h2, h3, h4, h5, h6, h7, h8⟩, h9, h10⟩; go_simp <;> omega
  refine plist #[true, true, true, true, true, true, true, true, true, true, true, true, true, true, true, true, true, true, true, true, true, true, false, false, false, false, false, false, false, false, false, false, false, false, false, false, false, false, false, false, false, false, false] (by kernel_rfl) ?_
  refine wpAnyH_take (i := 22) (v := (.bool false)) rfl (by kernel_rfl) (by kernel_rfl) (by kernel_rfl) (fun _ _ _ h => h) (.inl ⟨by kernel_rfl, ?_⟩) ⟨⟨PA.box 0 _ rfl, PA.box 1 _ rfl, PA.box 2 _ rfl, PA.box 3 _ rfl, PA.box 4 _ rfl, PA.box 5 _ rfl, PA.box 6 _ rfl, PA.box 8 _ rfl⟩, PQ.box 6 _ rfl, PQ.box 7 _ rfl⟩ ?_
  · rintro w ⟨⟨h1, h2, h3, h4, h5, h6, h7, h8⟩, h9, h10⟩; go_simp <;> omega
  refine plist #[true, true, true, true, true, true, true, true, true, true, true, true, true, true, true, true, true, true, true, true, true, true, true, false, false, false, false, false, false, false, false, false, false, false, false, false, false, false, false, false, false, false, false] (by kernel_rfl) ?_
  refine wpAnyH_take (i := 23) (v := (.bool false)) rfl (by kernel_rfl) (by kernel_rfl) (by kernel_rfl) (fun _ _ _ h => h) (.inl ⟨by kernel_rfl, ?_⟩) ⟨⟨PA.box 0 _ rfl, PA.box 1 _ rfl, PA.box 2 _ rfl, PA.box 3 _ rfl, PA.box 4 _ rfl, PA.box 5 _ rfl, PA.box 6 _ rfl, PA.box 8 _ rfl⟩, PQ.box 6 _ rfl, PQ.box 7 _ rfl⟩ ?_
  · rintro w ⟨⟨h1, h2, h3, h4, h5, h6, h7, h8⟩, h9, h10⟩; go_simp <;> omega
  refine plist #[true, true, true, true, true, true, true, true, true, true, true, true, true, true, true, true, true, true, true, true, true, true, true, true, false, false, false, false, false, false, false, false, false, false, false, false, false, false, false, false, false, false, false] (by kernel_rfl) ?_
  refine wpAnyH_take (i := 24) (v := (.pointer (some ⟨X9.heap.size, 6, none⟩))) rfl (by kernel_rfl) (by kernel_rfl) (by kernel_rfl) (fun _ _ _ h => h) (.inl ⟨by kernel_rfl, ?_⟩) ⟨⟨PA.box 0 _ rfl, PA.box 1 _ rfl, PA.box 2 _ rfl, PA.box 3 _ rfl, PA.box 4 _ rfl, PA.box 5 _ rfl, PA.box 6 _ rfl, PA.box 8 _ rfl⟩, PQ.box 6 _ rfl, PQ.box 7 _ rfl⟩ ?_
  · rintro w ⟨⟨h1, h2, h3, h4, h5, h6, h7, h8⟩, h9, h10⟩; go_simp <;> omega
  refine plist #[true, true, true, true, true, true, true, true, true, true, true, true, true, true, true, true, true, true, true, true, true, true, true, true, true, false, false, false, false, false, false, false, false, false, false, false, false, false, false, false, false, false, false] (by kernel_rfl) ?_
  refine wpAnyH_take (i := 25) (v := (.agg #[.slice qpzj npzj cpzj])) rfl (by kernel_rfl) (by kernel_rfl) (by kernel_rfl) (fun _ _ _ h => h) (.inl ⟨by kernel_rfl, ?_⟩) ⟨⟨PA.box 0 _ rfl, PA.box 1 _ rfl, PA.box 2 _ rfl, PA.box 3 _ rfl, PA.box 4 _ rfl, PA.box 5 _ rfl, PA.box 6 _ rfl, PA.box 8 _ rfl⟩, PQ.box 6 _ rfl, PQ.box 7 _ rfl⟩ ?_
  · rintro w ⟨⟨h1, h2, h3, h4, h5, h6, h7, h8⟩, h9, h10⟩; go_simp <;> omega
  refine plist #[true, true, true, true, true, true, true, true, true, true, true, true, true, true, true, true, true, true, true, true, true, true, true, true, true, true, false, false, false, false, false, false, false, false, false, false, false, false, false, false, false, false, false] (by kernel_rfl) ?_
  refine wpAnyH_take (i := 26) (v := (.pointer (some ⟨X6.heap.size, 6, none⟩))) rfl (by kernel_rfl) (by kernel_rfl) (by kernel_rfl) (fun _ _ _ h => h) (.inl ⟨by kernel_rfl, ?_⟩) ⟨⟨PA.box 0 _ rfl, PA.box 1 _ rfl, PA.box 2 _ rfl, PA.box 3 _ rfl, PA.box 4 _ rfl, PA.box 5 _ rfl, PA.box 6 _ rfl, PA.box 8 _ rfl⟩, PQ.box 6 _ rfl, PQ.box 7 _ rfl⟩ ?_
  · rintro w ⟨⟨h1, h2, h3, h4, h5, h6, h7, h8⟩, h9, h10⟩; go_simp <;> omega
  refine plist #[true, true, true, true, true, true, true, true, true, true, true, true, true, true, true, true, true, true, true, true, true, true, true, true, true, true, true, false, false, false, false, false, false, false, false, false, false, false, false, false, false, false, false] (by kernel_rfl) ?_
  refine wpAnyH_take (i := 27) (v := (.agg #[.slice qpz npz cpz])) rfl (by kernel_rfl) (by kernel_rfl) (by kernel_rfl) (fun _ _ _ h => h) (.inl ⟨by kernel_rfl, ?_⟩) ⟨⟨PA.box 0 _ rfl, PA.box 1 _ rfl, PA.box 2 _ rfl, PA.box 3 _ rfl, PA.box 4 _ rfl, PA.box 5 _ rfl, PA.box 6 _ rfl, PA.box 8 _ rfl⟩, PQ.box 6 _ rfl, PQ.box 7 _ rfl⟩ ?_
  · rintro w ⟨⟨h1, h2, h3, h4, h5, h6, h7, h8⟩, h9, h10⟩; go_simp <;> omega
  refine plist #[true, true, true, true, true, true, true, true, true, true, true, true, true, true, true, true, true, true, true, true, true, true, true, true, true, true, true, true, false, false, false, false, false, false, false, false, false, false, false, false, false, false, false] (by kernel_rfl) ?_
  have con := Frm.Same_any _ _ (ownF oA) (ownF oA) _ j4 i4 (Nat.le_trans (own_len oA) (by decide)) (Nat.le_trans (own_len oA) (by decide))
  rw [decide_eq_true rfl] at con
  refine pone 28 (by kernel_rfl) rfl fun K hK => ?_
  go_simp
  refine con.mono ?_
  rintro e W28 ⟨rfl, hb⟩
  have A2 := A.trans (hb.mono A.size)
  clear A
  have A := A2
  clear A2
  replace QA := QA.on hb
  replace QB := QB.on hb
  replace PA := PA.on hb
  replace PQ := PQ.on hb
  replace i1 := i1.below hb
  replace i2 := i2.below hb
  replace i3 := i3.below hb
  replace i4 := i4.below hb
  replace i5 := i5.below hb
  replace i6 := i6.below hb
  replace j4 := j4.below hb
  replace j5 := j5.below hb
  replace hF := hF.below hb
  replace FO := (Keep.of_below hb).boxed FO FO.lt
  clear con hb 
  refine hK _ _ ⟨⟨PA.box 0 _ rfl, PA.box 1 _ rfl, PA.box 2 _ rfl, PA.box 3 _ rfl, PA.box 4 _ rfl, PA.box 5 _ rfl, PA.box 6 _ rfl, PA.box 8 _ rfl⟩, PQ.box 6 _ rfl, PQ.box 7 _ rfl⟩ ?_
  clear hK K
  refine plist #[true, true, true, true, true, true, true, true, true, true, true, true, true, true, true, true, true, true, true, true, true, true, true, true, true, true, true, true, true, false, false, false, false, false, false, false, false, false, false, false, false, false, false] (by kernel_rfl) ?_
  refine wpAnyH_take (i := 29) (v := (.bool false)) rfl (by kernel_rfl) (by kernel_rfl) (by kernel_rfl) (fun _ _ _ h => h) (.inl ⟨by kernel_rfl, ?_⟩) ⟨⟨PA.box 0 _ rfl, PA.box 1 _ rfl, PA.box 2 _ rfl, PA.box 3 _ rfl, PA.box 4 _ rfl, PA.box 5 _ rfl, PA.box 6 _ rfl, PA.box 8 _ rfl⟩, PQ.box 6 _ rfl, PQ.box 7 _ rfl⟩ ?_
  · rintro w ⟨⟨h1, h2, h3, h4, h5, h6, h7, h8⟩, h9, h10⟩; go_simp <;> omega
  refine plist #[true, true, true, true, true, true, true, true, true, true, true, true, true, true, true, true, true, true, true, true, true, true, true, true, true, true, true, true, true, true, false, false, false, false, false, false, false, false, false, false, false, false, false] (by kernel_rfl) ?_
  refine wpAnyH_take (i := 30) (v := (.bool false)) rfl (by kernel_rfl) (by kernel_rfl) (by kernel_rfl) (fun _ _ _ h => h) (.inl ⟨by kernel_rfl, ?_⟩) ⟨⟨PA.box 0 _ rfl, PA.box 1 _ rfl, PA.box 2 _ rfl, PA.box 3 _ rfl, PA.box 4 _ rfl, PA.box 5 _ rfl, PA.box 6 _ rfl, PA.box 8 _ rfl⟩, PQ.box 6 _ rfl, PQ.box 7 _ rfl⟩ ?_
  · rintro w ⟨⟨h1, h2, h3, h4, h5, h6, h7, h8⟩, h9, h10⟩; go_simp <;> omega
  refine plist #[true, true, true, true, true, true, true, true, true, true, true, true, true, true, true, true, true, true, true, true, true, true, true, true, true, true, true, true, true, true, true, false, false, false, false, false, false, false, false, false, false, false, false] (by kernel_rfl) ?_
  refine wpAnyH_take (i := 31) (v := (.bool false)) rfl (by kernel_rfl) (by kernel_rfl) (by kernel_rfl) (fun _ _ _ h => h) (.inl ⟨by kernel_rfl, ?_⟩) ⟨⟨PA.box 0 _ rfl, PA.box 1 _ rfl, PA.box 2 _ rfl, PA.box 3 _ rfl, PA.box 4 _ rfl, PA.box 5 _ rfl, PA.box 6 _ rfl, PA.box 8 _ rfl⟩, PQ.box 6 _ rfl, PQ.box 7 _ rfl⟩ ?_
  · rintro w ⟨⟨h1, h2, h3, h4, h5, h6, h7, h8⟩, h9, h10⟩; go_simp <;> omega
  refine plist #[true, true, true, true, true, true, true, true, true, true, true, true, true, true, true, true, true, true, true, true, true, true, true, true, true, true, true, true, true, true, true, true, false, false, false, false, false, false, false, false, false, false, false] (by kernel_rfl) ?_
  refine wpAnyH_take (i := 32) (v := (.pointer (some ⟨X9.heap.size, 7, none⟩))) rfl (by kernel_rfl) (by kernel_rfl) (by kernel_rfl) (fun _ _ _ h => h) (.inl ⟨by kernel_rfl, ?_⟩) ⟨⟨PA.box 0 _ rfl, PA.box 1 _ rfl, PA.box 2 _ rfl, PA.box 3 _ rfl, PA.box 4 _ rfl, PA.box 5 _ rfl, PA.box 6 _ rfl, PA.box 8 _ rfl⟩, PQ.box 6 _ rfl, PQ.box 7 _ rfl⟩ ?_
  · rintro w ⟨⟨h1, h2, h3, h4, h5, h6, h7, h8⟩, h9, h10⟩; go_simp <;> omega
  refine plist #[true, true, true, true, true, true, true, true, true, true, true, true, true, true, true, true, true, true, true, true, true, true, true, true, true, true, true, true, true, true, true, true, true, false, false, false, false, false, false, false, false, false, false] (by kernel_rfl) ?_
  refine wpAnyH_take (i := 33) (v := (.agg #[.slice qkzj nkzj ckzj])) rfl (by kernel_rfl) (by kernel_rfl) (by kernel_rfl) (fun _ _ _ h => h) (.inl ⟨by kernel_rfl, ?_⟩) ⟨⟨PA.box 0 _ rfl, PA.box 1 _ rfl, PA.box 2 _ rfl, PA.box 3 _ rfl, PA.box 4 _ rfl, PA.box 5 _ rfl, PA.box 6 _ rfl, PA.box 8 _ rfl⟩, PQ.box 6 _ rfl, PQ.box 7 _ rfl⟩ ?_
  · rintro w ⟨⟨h1, h2, h3, h4, h5, h6, h7, h8⟩, h9, h10⟩; go_simp <;> omega
  refine plist #[true, true, true, true, true, true, true, true, true, true, true, true, true, true, true, true, true, true, true, true, true, true, true, true, true, true, true, true, true, true, true, true, true, true, false, false, false, false, false, false, false, false, false] (by kernel_rfl) ?_
  have con := Pol.Text_any _ _ _ [allS] _ j5 (by decide) all_src.1 (HG.out.on A)
  rw [show textS [allS] = [42] by decide +kernel] at con
  refine pone 34 (by kernel_rfl) rfl fun K hK => ?_
  go_simp
  refine con.mono ?_
  rintro e W34 ⟨rfl, hb⟩
  have A2 := A.trans (hb.mono A.size)
  clear A
  have A := A2
  clear A2
  replace QA := QA.on hb
  replace QB := QB.on hb
  replace PA := PA.on hb
  replace PQ := PQ.on hb
  replace i1 := i1.below hb
  replace i2 := i2.below hb
  replace i3 := i3.below hb
  replace i4 := i4.below hb
  replace i5 := i5.below hb
  replace i6 := i6.below hb
  replace j4 := j4.below hb
  replace j5 := j5.below hb
  replace hF := hF.below hb
  replace FO := (Keep.of_below hb).boxed FO FO.lt
  clear con hb 
  refine hK _ _ ⟨⟨PA.box 0 _ rfl, PA.box 1 _ rfl, PA.box 2 _ rfl, PA.box 3 _ rfl, PA.box 4 _ rfl, PA.box 5 _ rfl, PA.box 6 _ rfl, PA.box 8 _ rfl⟩, PQ.box 6 _ rfl, PQ.box 7 _ rfl⟩ ?_
  clear hK K
  refine plist #[true, true, true, true, true, true, true, true, true, true, true, true, true, true, true, true, true, true, true, true, true, true, true, true, true, true, true, true, true, true, true, true, true, true, true, false, false, false, false, false, false, false, false] (by kernel_rfl) ?_
  refine wpAnyH_take (i := 35) (v := (.bool false)) rfl (by kernel_rfl) (by kernel_rfl) (by kernel_rfl) (fun _ _ _ h => h) (.inl ⟨by kernel_rfl, ?_⟩) ⟨⟨PA.box 0 _ rfl, PA.box 1 _ rfl, PA.box 2 _ rfl, PA.box 3 _ rfl, PA.box 4 _ rfl, PA.box 5 _ rfl, PA.box 6 _ rfl, PA.box 8 _ rfl⟩, PQ.box 6 _ rfl, PQ.box 7 _ rfl⟩ ?_
  · rintro w ⟨⟨h1, h2, h3, h4, h5, h6, h7, h8⟩, h9, h10⟩; go_simp <;> omega
  refine plist #[true, true, true, true, true, true, true, true, true, true, true, true, true, true, true, true, true, true, true, true, true, true, true, true, true, true, true, true, true, true, true, true, true, true, true, true, false, false, false, false, false, false, false] (by kernel_rfl) ?_
  refine wpAnyH_take (i := 36) (v := (.bool false)) rfl (by kernel_rfl) (by kernel_rfl) (by kernel_rfl) (fun _ _ _ h => h) (.inl ⟨by kernel_rfl, ?_⟩) ⟨⟨PA.box 0 _ rfl, PA.box 1 _ rfl, PA.box 2 _ rfl, PA.box 3 _ rfl, PA.box 4 _ rfl, PA.box 5 _ rfl, PA.box 6 _ rfl, PA.box 8 _ rfl⟩, PQ.box 6 _ rfl, PQ.box 7 _ rfl⟩ ?_
  · rintro w ⟨⟨h1, h2, h3, h4, h5, h6, h7, h8⟩, h9, h10⟩; go_simp <;> omega
  refine plist #[true, true, true, true, true, true, true, true, true, true, true, true, true, true, true, true, true, true, true, true, true, true, true, true, true, true, true, true, true, true, true, true, true, true, true, true, true, false, false, false, false, false, false] (by kernel_rfl) ?_
  refine wpAnyH_take (i := 37) (v := (.bool false)) rfl (by kernel_rfl) (by kernel_rfl) (by kernel_rfl) (fun _ _ _ h => h) (.inl ⟨by kernel_rfl, ?_⟩) ⟨⟨PA.box 0 _ rfl, PA.box 1 _ rfl, PA.box 2 _ rfl, PA.box 3 _ rfl, PA.box 4 _ rfl, PA.box 5 _ rfl, PA.box 6 _ rfl, PA.box 8 _ rfl⟩, PQ.box 6 _ rfl, PQ.box 7 _ rfl⟩ ?_
  · rintro w ⟨⟨h1, h2, h3, h4, h5, h6, h7, h8⟩, h9, h10⟩; go_simp <;> omega
  refine plist #[true, true, true, true, true, true, true, true, true, true, true, true, true, true, true, true, true, true, true, true, true, true, true, true, true, true, true, true, true, true, true, true, true, true, true, true, true, true, false, false, false, false, false] (by kernel_rfl) ?_
  refine wpAnyH_take (i := 38) (v := (.pointer (some ⟨X6.heap.size, 8, none⟩))) rfl (by kernel_rfl) (by kernel_rfl) (by kernel_rfl) (fun _ _ _ h => h) (.inl ⟨by kernel_rfl, ?_⟩) ⟨⟨PA.box 0 _ rfl, PA.box 1 _ rfl, PA.box 2 _ rfl, PA.box 3 _ rfl, PA.box 4 _ rfl, PA.box 5 _ rfl, PA.box 6 _ rfl, PA.box 8 _ rfl⟩, PQ.box 6 _ rfl, PQ.box 7 _ rfl⟩ ?_
  · rintro w ⟨⟨h1, h2, h3, h4, h5, h6, h7, h8⟩, h9, h10⟩; go_simp <;> omega
  refine plist #[true, true, true, true, true, true, true, true, true, true, true, true, true, true, true, true, true, true, true, true, true, true, true, true, true, true, true, true, true, true, true, true, true, true, true, true, true, true, true, false, false, false, false] (by kernel_rfl) ?_
  refine wpAnyH_take (i := 39) (v := (.agg #[.slice qfz nfz cfz])) rfl (by kernel_rfl) (by kernel_rfl) (by kernel_rfl) (fun _ _ _ h => h) (.inl ⟨by kernel_rfl, ?_⟩) ⟨⟨PA.box 0 _ rfl, PA.box 1 _ rfl, PA.box 2 _ rfl, PA.box 3 _ rfl, PA.box 4 _ rfl, PA.box 5 _ rfl, PA.box 6 _ rfl, PA.box 8 _ rfl⟩, PQ.box 6 _ rfl, PQ.box 7 _ rfl⟩ ?_
  · rintro w ⟨⟨h1, h2, h3, h4, h5, h6, h7, h8⟩, h9, h10⟩; go_simp <;> omega
  refine plist #[true, true, true, true, true, true, true, true, true, true, true, true, true, true, true, true, true, true, true, true, true, true, true, true, true, true, true, true, true, true, true, true, true, true, true, true, true, true, true, true, false, false, false] (by kernel_rfl) ?_
  have con := Pol.Text_any _ _ _ [allS] _ i6 (by decide) all_src.1 (HG.out.on A)
  rw [show textS [allS] = [42] by decide +kernel] at con
  refine pone 40 (by kernel_rfl) rfl fun K hK => ?_
  go_simp
  refine con.mono ?_
  rintro e W40 ⟨rfl, hb⟩
  have A2 := A.trans (hb.mono A.size)
  clear A
  have A := A2
  clear A2
  replace QA := QA.on hb
  replace QB := QB.on hb
  replace PA := PA.on hb
  replace PQ := PQ.on hb
  replace i1 := i1.below hb
  replace i2 := i2.below hb
  replace i3 := i3.below hb
  replace i4 := i4.below hb
  replace i5 := i5.below hb
  replace i6 := i6.below hb
  replace j4 := j4.below hb
  replace j5 := j5.below hb
  replace hF := hF.below hb
  replace FO := (Keep.of_below hb).boxed FO FO.lt
  clear con hb 
  refine hK _ _ ⟨⟨PA.box 0 _ rfl, PA.box 1 _ rfl, PA.box 2 _ rfl, PA.box 3 _ rfl, PA.box 4 _ rfl, PA.box 5 _ rfl, PA.box 6 _ rfl, PA.box 8 _ rfl⟩, PQ.box 6 _ rfl, PQ.box 7 _ rfl⟩ ?_
  clear hK K
  refine plist #[true, true, true, true, true, true, true, true, true, true, true, true, true, true, true, true, true, true, true, true, true, true, true, true, true, true, true, true, true, true, true, true, true, true, true, true, true, true, true, true, true, false, false] (by kernel_rfl) ?_
  refine wpAnyH_take (i := 41) (v := (.bool false)) rfl (by kernel_rfl) (by kernel_rfl) (by kernel_rfl) (fun _ _ _ h => h) (.inl ⟨by kernel_rfl, ?_⟩) ⟨⟨PA.box 0 _ rfl, PA.box 1 _ rfl, PA.box 2 _ rfl, PA.box 3 _ rfl, PA.box 4 _ rfl, PA.box 5 _ rfl, PA.box 6 _ rfl, PA.box 8 _ rfl⟩, PQ.box 6 _ rfl, PQ.box 7 _ rfl⟩ ?_
  · rintro w ⟨⟨h1, h2, h3, h4, h5, h6, h7, h8⟩, h9, h10⟩; go_simp <;> omega
  refine plist #[true, true, true, true, true, true, true, true, true, true, true, true, true, true, true, true, true, true, true, true, true, true, true, true, true, true, true, true, true, true, true, true, true, true, true, true, true, true, true, true, true, true, false] (by kernel_rfl) ?_
  refine wpAnyH_take (i := 42) (v := (.bool false)) rfl (by kernel_rfl) (by kernel_rfl) (by kernel_rfl) (fun _ _ _ h => h) (.inl ⟨by kernel_rfl, ?_⟩) ⟨⟨PA.box 0 _ rfl, PA.box 1 _ rfl, PA.box 2 _ rfl, PA.box 3 _ rfl, PA.box 4 _ rfl, PA.box 5 _ rfl, PA.box 6 _ rfl, PA.box 8 _ rfl⟩, PQ.box 6 _ rfl, PQ.box 7 _ rfl⟩ ?_
  · rintro w ⟨⟨h1, h2, h3, h4, h5, h6, h7, h8⟩, h9, h10⟩; go_simp <;> omega
  refine pdone (by kernel_rfl) ?_ _
  obtain ⟨bb, hbb⟩ : ∃ b, (mB == 0) = b := ⟨_, rfl⟩
  have HBD := Lib.hid (show decide (mB = 0) = bb by rw [← hbb]; rfl)
  have x3 := QA.box 3 _ rfl
  have x6 := PA.box 6 _ rfl
  have xf := FO.cell
  have HOC := Lib.hid (fun h => own_closed oA h)
  rw [HMA.out] at HOI HOC
  by_cases hf : fn = 0
  · subst hf
    by_cases hm : mA = 0
    · subst hm
      have con := Frm.Same_any _ _ (ownF oA) fv _ i4 hF (Nat.le_trans (own_len oA) (by decide)) (by rw [HOI.out rfl rfl]; exact Nat.le_trans (own_len oA) (by decide))
      rw [HOI.out rfl rfl, decide_eq_true rfl] at con
      go_wp2_with fail
      refine con.mono ?_
      rintro e Ws ⟨rfl, hb⟩
      have A2 := A.trans (hb.mono A.size)
      clear A
      have A := A2
      clear A2
      replace QA := QA.on hb
      replace QB := QB.on hb
      replace PA := PA.on hb
      replace PQ := PQ.on hb
      replace i1 := i1.below hb
      replace i2 := i2.below hb
      replace i3 := i3.below hb
      replace i4 := i4.below hb
      replace i5 := i5.below hb
      replace i6 := i6.below hb
      replace j4 := j4.below hb
      replace j5 := j5.below hb
      replace hF := hF.below hb
      replace FO := (Keep.of_below hb).boxed FO FO.lt
      clear con hb x3 x6 xf
      have x3 := QA.box 3 _ rfl
      go_wp2_with fail
      clear x3
      obtain ⟨V, hV⟩ : ∃ Z, Ws.drew = Z := ⟨_, rfl⟩
      have hb : Below Ws.heap.size Ws V := hV ▸ ⟨rfl, rfl, rfl, Nat.le_refl _, fun _ _ => rfl⟩
      have A2 := A.trans (hb.mono A.size)
      clear A
      have A := A2
      clear A2
      replace QA := QA.on hb
      replace QB := QB.on hb
      replace PA := PA.on hb
      replace i5 := i5.below hb
      have HV := Lib.hid hV
      clear hV hb
      refine pregion_any (fun X => (X.cell? ⟨X2.heap.size, 0, none⟩ = some (.string ⟨sA.toArray⟩) ∧ X.cell? ⟨X2.heap.size, 1, none⟩ = some (.string ⟨gA.toArray⟩) ∧ X.cell? ⟨X2.heap.size, 2, none⟩ = some (.int .i64 pA) ∧ X.cell? ⟨X2.heap.size, 3, none⟩ = some (.int .i64 0)) ∧ (X.cell? ⟨X4.heap.size, 0, none⟩ = some (.string ⟨sB.toArray⟩) ∧ X.cell? ⟨X4.heap.size, 1, none⟩ = some (.string ⟨gB.toArray⟩) ∧ X.cell? ⟨X4.heap.size, 2, none⟩ = some (.int .i64 pB) ∧ X.cell? ⟨X4.heap.size, 3, none⟩ = some (.int .i64 mB)) ∧ X.cell? ⟨X6.heap.size, 7, none⟩ = some (.slice qkz nkz ckz)) (by kernel_rfl) ?_
      rw [HV.out]
      refine wpAnyH_take (i := 0) (v := (.pointer (some ⟨X6.heap.size, 7, none⟩))) rfl (by kernel_rfl) (by kernel_rfl) (by kernel_rfl) (fun _ _ _ h => h) (.inl ⟨by kernel_rfl, ?_⟩) ⟨⟨QA.box 0 _ rfl, QA.box 1 _ rfl, QA.box 2 _ rfl, QA.box 3 _ rfl⟩, ⟨QB.box 0 _ rfl, QB.box 1 _ rfl, QB.box 2 _ rfl, QB.box 3 _ rfl⟩, PA.box 7 _ rfl⟩ ?_
      · rintro w ⟨⟨h1, h2, h3, h4⟩, ⟨h5, h6, h7, h8⟩, h9⟩; go_simp <;> omega
      refine plist #[true, false, false, false, false, false, false, false, false, false] (by kernel_rfl) ?_
      refine wpAnyH_take (i := 1) (v := (.agg #[.slice qkz nkz ckz])) rfl (by kernel_rfl) (by kernel_rfl) (by kernel_rfl) (fun _ _ _ h => h) (.inl ⟨by kernel_rfl, ?_⟩) ⟨⟨QA.box 0 _ rfl, QA.box 1 _ rfl, QA.box 2 _ rfl, QA.box 3 _ rfl⟩, ⟨QB.box 0 _ rfl, QB.box 1 _ rfl, QB.box 2 _ rfl, QB.box 3 _ rfl⟩, PA.box 7 _ rfl⟩ ?_
      · rintro w ⟨⟨h1, h2, h3, h4⟩, ⟨h5, h6, h7, h8⟩, h9⟩; go_simp <;> omega
      refine plist #[true, true, false, false, false, false, false, false, false, false] (by kernel_rfl) ?_
      refine wpAnyH_take (i := 2) (v := (.agg #[.string ⟨sA.toArray⟩, .string ⟨gA.toArray⟩, .int .i64 pA, .int .i64 0])) rfl (by kernel_rfl) (by kernel_rfl) (by kernel_rfl) (fun _ _ _ h => h) (.inl ⟨by kernel_rfl, ?_⟩) ⟨⟨QA.box 0 _ rfl, QA.box 1 _ rfl, QA.box 2 _ rfl, QA.box 3 _ rfl⟩, ⟨QB.box 0 _ rfl, QB.box 1 _ rfl, QB.box 2 _ rfl, QB.box 3 _ rfl⟩, PA.box 7 _ rfl⟩ ?_
      · rintro w ⟨⟨h1, h2, h3, h4⟩, ⟨h5, h6, h7, h8⟩, h9⟩; go_simp <;> omega
      refine plist #[true, true, true, false, false, false, false, false, false, false] (by kernel_rfl) ?_
      refine wpAnyH_take (i := 3) (v := (.agg #[.string ⟨sB.toArray⟩, .string ⟨gB.toArray⟩, .int .i64 pB, .int .i64 mB])) rfl (by kernel_rfl) (by kernel_rfl) (by kernel_rfl) (fun _ _ _ h => h) (.inl ⟨by kernel_rfl, ?_⟩) ⟨⟨QA.box 0 _ rfl, QA.box 1 _ rfl, QA.box 2 _ rfl, QA.box 3 _ rfl⟩, ⟨QB.box 0 _ rfl, QB.box 1 _ rfl, QB.box 2 _ rfl, QB.box 3 _ rfl⟩, PA.box 7 _ rfl⟩ ?_
      · rintro w ⟨⟨h1, h2, h3, h4⟩, ⟨h5, h6, h7, h8⟩, h9⟩; go_simp <;> omega
      refine plist #[true, true, true, true, false, false, false, false, false, false] (by kernel_rfl) ?_
      refine wpAnyH_take (i := 5) (v := (.pointer (some ⟨X4.heap.size, 3, none⟩))) rfl (by kernel_rfl) (by kernel_rfl) (by kernel_rfl) (fun _ _ _ h => h) (.inl ⟨by kernel_rfl, ?_⟩) ⟨⟨QA.box 0 _ rfl, QA.box 1 _ rfl, QA.box 2 _ rfl, QA.box 3 _ rfl⟩, ⟨QB.box 0 _ rfl, QB.box 1 _ rfl, QB.box 2 _ rfl, QB.box 3 _ rfl⟩, PA.box 7 _ rfl⟩ ?_
      · rintro w ⟨⟨h1, h2, h3, h4⟩, ⟨h5, h6, h7, h8⟩, h9⟩; go_simp <;> omega
      refine plist #[true, true, true, true, false, true, false, false, false, false] (by kernel_rfl) ?_
      refine wpAnyH_take (i := 6) (v := (.int .i64 mB)) rfl (by kernel_rfl) (by kernel_rfl) (by kernel_rfl) (fun _ _ _ h => h) (.inl ⟨by kernel_rfl, ?_⟩) ⟨⟨QA.box 0 _ rfl, QA.box 1 _ rfl, QA.box 2 _ rfl, QA.box 3 _ rfl⟩, ⟨QB.box 0 _ rfl, QB.box 1 _ rfl, QB.box 2 _ rfl, QB.box 3 _ rfl⟩, PA.box 7 _ rfl⟩ ?_
      · rintro w ⟨⟨h1, h2, h3, h4⟩, ⟨h5, h6, h7, h8⟩, h9⟩; go_simp <;> omega
      refine plist #[true, true, true, true, false, true, true, false, false, false] (by kernel_rfl) ?_
      refine wpAnyH_take (i := 7) (v := (.bool bb)) rfl (by kernel_rfl) (by kernel_rfl) (by kernel_rfl) (fun _ _ _ h => h) (.inl ⟨by kernel_rfl, ?_⟩) ⟨⟨QA.box 0 _ rfl, QA.box 1 _ rfl, QA.box 2 _ rfl, QA.box 3 _ rfl⟩, ⟨QB.box 0 _ rfl, QB.box 1 _ rfl, QB.box 2 _ rfl, QB.box 3 _ rfl⟩, PA.box 7 _ rfl⟩ ?_
      · rintro w ⟨⟨h1, h2, h3, h4⟩, ⟨h5, h6, h7, h8⟩, h9⟩; go_simp <;> omega
      refine plist #[true, true, true, true, false, true, true, true, false, false] (by kernel_rfl) ?_
      have con := Pol.Allows_any _ _ _ [allS] oA oB _ i5 (by decide) all_src.1 HOA.out HOB.out (HG.out.on A)
      rw [HQA.out, HQB.out, all_allows, HMB.out, HBD.out] at con
      refine pone 4 (by kernel_rfl) rfl fun K hK => ?_
      go_simp
      refine con.mono ?_
      rintro e Wy ⟨rfl, hb⟩
      have A2 := A.trans (hb.mono A.size)
      clear A
      have A := A2
      clear A2
      replace QA := QA.on hb
      replace QB := QB.on hb
      replace PA := PA.on hb
      replace i5 := i5.below hb
      clear con hb 
      refine hK _ _ ⟨⟨QA.box 0 _ rfl, QA.box 1 _ rfl, QA.box 2 _ rfl, QA.box 3 _ rfl⟩, ⟨QB.box 0 _ rfl, QB.box 1 _ rfl, QB.box 2 _ rfl, QB.box 3 _ rfl⟩, PA.box 7 _ rfl⟩ ?_
      clear hK K
      refine plist #[true, true, true, true, true, true, true, true, false, false] (by kernel_rfl) ?_
      refine wpAnyH_take (i := 8) (v := (.bool true)) rfl (by kernel_rfl) (by kernel_rfl) (by kernel_rfl) (fun _ _ _ h => h) (.inl ⟨by kernel_rfl, ?_⟩) ⟨⟨QA.box 0 _ rfl, QA.box 1 _ rfl, QA.box 2 _ rfl, QA.box 3 _ rfl⟩, ⟨QB.box 0 _ rfl, QB.box 1 _ rfl, QB.box 2 _ rfl, QB.box 3 _ rfl⟩, PA.box 7 _ rfl⟩ ?_
      · rintro w ⟨⟨h1, h2, h3, h4⟩, ⟨h5, h6, h7, h8⟩, h9⟩; go_simp <;> omega
      refine plist #[true, true, true, true, true, true, true, true, true, false] (by kernel_rfl) ?_
      refine pone 9 (by kernel_rfl) rfl fun K hK => ?_
      go_simp
      refine hK _ _ ⟨⟨QA.box 0 _ rfl, QA.box 1 _ rfl, QA.box 2 _ rfl, QA.box 3 _ rfl⟩, ⟨QB.box 0 _ rfl, QB.box 1 _ rfl, QB.box 2 _ rfl, QB.box 3 _ rfl⟩, PA.box 7 _ rfl⟩ ?_
      clear hK K
      refine pdone (by kernel_rfl) ?_ _
      go_wp2
      go_ret
      exact ⟨rfl, A⟩
    · have d2 : (mA == 0) = false := by simpa using hm
      clear hm
      by_cases hg : 0 < mA
      · have d3 : decide ((0 : Int) < mA) = true := by simp; omega
        have con := Frm.Len_any _ _ _ i4
        rw [show (plainP oA).prv = ownF oA from rfl, HOC.out hg] at con
        clear hg
        go_wp2_with fail
        refine con.mono ?_
        rintro e Wl ⟨rfl, hb⟩
        have A2 := A.trans (hb.mono A.size)
        clear A
        have A := A2
        clear A2
        replace QA := QA.on hb
        replace QB := QB.on hb
        replace PA := PA.on hb
        replace PQ := PQ.on hb
        replace i1 := i1.below hb
        replace i2 := i2.below hb
        replace i3 := i3.below hb
        replace i4 := i4.below hb
        replace i5 := i5.below hb
        replace i6 := i6.below hb
        replace j4 := j4.below hb
        replace j5 := j5.below hb
        replace hF := hF.below hb
        replace FO := (Keep.of_below hb).boxed FO FO.lt
        clear con hb x3 x6 xf
        have x3 := QA.box 3 _ rfl
        go_wp2_with fail
        clear x3
        obtain ⟨V, hV⟩ : ∃ Z, Wl.drew = Z := ⟨_, rfl⟩
        have hb : Below Wl.heap.size Wl V := hV ▸ ⟨rfl, rfl, rfl, Nat.le_refl _, fun _ _ => rfl⟩
        have A2 := A.trans (hb.mono A.size)
        clear A
        have A := A2
        clear A2
        replace QA := QA.on hb
        replace QB := QB.on hb
        replace PA := PA.on hb
        replace i5 := i5.below hb
        have HV := Lib.hid hV
        clear hV hb
        refine pregion_any (fun X => (X.cell? ⟨X2.heap.size, 0, none⟩ = some (.string ⟨sA.toArray⟩) ∧ X.cell? ⟨X2.heap.size, 1, none⟩ = some (.string ⟨gA.toArray⟩) ∧ X.cell? ⟨X2.heap.size, 2, none⟩ = some (.int .i64 pA) ∧ X.cell? ⟨X2.heap.size, 3, none⟩ = some (.int .i64 mA)) ∧ (X.cell? ⟨X4.heap.size, 0, none⟩ = some (.string ⟨sB.toArray⟩) ∧ X.cell? ⟨X4.heap.size, 1, none⟩ = some (.string ⟨gB.toArray⟩) ∧ X.cell? ⟨X4.heap.size, 2, none⟩ = some (.int .i64 pB) ∧ X.cell? ⟨X4.heap.size, 3, none⟩ = some (.int .i64 mB)) ∧ X.cell? ⟨X6.heap.size, 7, none⟩ = some (.slice qkz nkz ckz)) (by kernel_rfl) ?_
        rw [HV.out]
        refine wpAnyH_take (i := 0) (v := (.pointer (some ⟨X6.heap.size, 7, none⟩))) rfl (by kernel_rfl) (by kernel_rfl) (by kernel_rfl) (fun _ _ _ h => h) (.inl ⟨by kernel_rfl, ?_⟩) ⟨⟨QA.box 0 _ rfl, QA.box 1 _ rfl, QA.box 2 _ rfl, QA.box 3 _ rfl⟩, ⟨QB.box 0 _ rfl, QB.box 1 _ rfl, QB.box 2 _ rfl, QB.box 3 _ rfl⟩, PA.box 7 _ rfl⟩ ?_
        · rintro w ⟨⟨h1, h2, h3, h4⟩, ⟨h5, h6, h7, h8⟩, h9⟩; go_simp <;> omega
        refine plist #[true, false, false, false, false, false, false, false, false, false] (by kernel_rfl) ?_
        refine wpAnyH_take (i := 1) (v := (.agg #[.slice qkz nkz ckz])) rfl (by kernel_rfl) (by kernel_rfl) (by kernel_rfl) (fun _ _ _ h => h) (.inl ⟨by kernel_rfl, ?_⟩) ⟨⟨QA.box 0 _ rfl, QA.box 1 _ rfl, QA.box 2 _ rfl, QA.box 3 _ rfl⟩, ⟨QB.box 0 _ rfl, QB.box 1 _ rfl, QB.box 2 _ rfl, QB.box 3 _ rfl⟩, PA.box 7 _ rfl⟩ ?_
        · rintro w ⟨⟨h1, h2, h3, h4⟩, ⟨h5, h6, h7, h8⟩, h9⟩; go_simp <;> omega
        refine plist #[true, true, false, false, false, false, false, false, false, false] (by kernel_rfl) ?_
        refine wpAnyH_take (i := 2) (v := (.agg #[.string ⟨sA.toArray⟩, .string ⟨gA.toArray⟩, .int .i64 pA, .int .i64 mA])) rfl (by kernel_rfl) (by kernel_rfl) (by kernel_rfl) (fun _ _ _ h => h) (.inl ⟨by kernel_rfl, ?_⟩) ⟨⟨QA.box 0 _ rfl, QA.box 1 _ rfl, QA.box 2 _ rfl, QA.box 3 _ rfl⟩, ⟨QB.box 0 _ rfl, QB.box 1 _ rfl, QB.box 2 _ rfl, QB.box 3 _ rfl⟩, PA.box 7 _ rfl⟩ ?_
        · rintro w ⟨⟨h1, h2, h3, h4⟩, ⟨h5, h6, h7, h8⟩, h9⟩; go_simp <;> omega
        refine plist #[true, true, true, false, false, false, false, false, false, false] (by kernel_rfl) ?_
        refine wpAnyH_take (i := 3) (v := (.agg #[.string ⟨sB.toArray⟩, .string ⟨gB.toArray⟩, .int .i64 pB, .int .i64 mB])) rfl (by kernel_rfl) (by kernel_rfl) (by kernel_rfl) (fun _ _ _ h => h) (.inl ⟨by kernel_rfl, ?_⟩) ⟨⟨QA.box 0 _ rfl, QA.box 1 _ rfl, QA.box 2 _ rfl, QA.box 3 _ rfl⟩, ⟨QB.box 0 _ rfl, QB.box 1 _ rfl, QB.box 2 _ rfl, QB.box 3 _ rfl⟩, PA.box 7 _ rfl⟩ ?_
        · rintro w ⟨⟨h1, h2, h3, h4⟩, ⟨h5, h6, h7, h8⟩, h9⟩; go_simp <;> omega
        refine plist #[true, true, true, true, false, false, false, false, false, false] (by kernel_rfl) ?_
        refine wpAnyH_take (i := 5) (v := (.pointer (some ⟨X4.heap.size, 3, none⟩))) rfl (by kernel_rfl) (by kernel_rfl) (by kernel_rfl) (fun _ _ _ h => h) (.inl ⟨by kernel_rfl, ?_⟩) ⟨⟨QA.box 0 _ rfl, QA.box 1 _ rfl, QA.box 2 _ rfl, QA.box 3 _ rfl⟩, ⟨QB.box 0 _ rfl, QB.box 1 _ rfl, QB.box 2 _ rfl, QB.box 3 _ rfl⟩, PA.box 7 _ rfl⟩ ?_
        · rintro w ⟨⟨h1, h2, h3, h4⟩, ⟨h5, h6, h7, h8⟩, h9⟩; go_simp <;> omega
        refine plist #[true, true, true, true, false, true, false, false, false, false] (by kernel_rfl) ?_
        refine wpAnyH_take (i := 6) (v := (.int .i64 mB)) rfl (by kernel_rfl) (by kernel_rfl) (by kernel_rfl) (fun _ _ _ h => h) (.inl ⟨by kernel_rfl, ?_⟩) ⟨⟨QA.box 0 _ rfl, QA.box 1 _ rfl, QA.box 2 _ rfl, QA.box 3 _ rfl⟩, ⟨QB.box 0 _ rfl, QB.box 1 _ rfl, QB.box 2 _ rfl, QB.box 3 _ rfl⟩, PA.box 7 _ rfl⟩ ?_
        · rintro w ⟨⟨h1, h2, h3, h4⟩, ⟨h5, h6, h7, h8⟩, h9⟩; go_simp <;> omega
        refine plist #[true, true, true, true, false, true, true, false, false, false] (by kernel_rfl) ?_
        refine wpAnyH_take (i := 7) (v := (.bool bb)) rfl (by kernel_rfl) (by kernel_rfl) (by kernel_rfl) (fun _ _ _ h => h) (.inl ⟨by kernel_rfl, ?_⟩) ⟨⟨QA.box 0 _ rfl, QA.box 1 _ rfl, QA.box 2 _ rfl, QA.box 3 _ rfl⟩, ⟨QB.box 0 _ rfl, QB.box 1 _ rfl, QB.box 2 _ rfl, QB.box 3 _ rfl⟩, PA.box 7 _ rfl⟩ ?_
        · rintro w ⟨⟨h1, h2, h3, h4⟩, ⟨h5, h6, h7, h8⟩, h9⟩; go_simp <;> omega
        refine plist #[true, true, true, true, false, true, true, true, false, false] (by kernel_rfl) ?_
        have con := Pol.Allows_any _ _ _ [allS] oA oB _ i5 (by decide) all_src.1 HOA.out HOB.out (HG.out.on A)
        rw [HQA.out, HQB.out, all_allows, HMB.out, HBD.out] at con
        refine pone 4 (by kernel_rfl) rfl fun K hK => ?_
        go_simp
        refine con.mono ?_
        rintro e Wy ⟨rfl, hb⟩
        have A2 := A.trans (hb.mono A.size)
        clear A
        have A := A2
        clear A2
        replace QA := QA.on hb
        replace QB := QB.on hb
        replace PA := PA.on hb
        replace i5 := i5.below hb
        clear con hb 
        refine hK _ _ ⟨⟨QA.box 0 _ rfl, QA.box 1 _ rfl, QA.box 2 _ rfl, QA.box 3 _ rfl⟩, ⟨QB.box 0 _ rfl, QB.box 1 _ rfl, QB.box 2 _ rfl, QB.box 3 _ rfl⟩, PA.box 7 _ rfl⟩ ?_
        clear hK K
        refine plist #[true, true, true, true, true, true, true, true, false, false] (by kernel_rfl) ?_
        refine wpAnyH_take (i := 8) (v := (.bool true)) rfl (by kernel_rfl) (by kernel_rfl) (by kernel_rfl) (fun _ _ _ h => h) (.inl ⟨by kernel_rfl, ?_⟩) ⟨⟨QA.box 0 _ rfl, QA.box 1 _ rfl, QA.box 2 _ rfl, QA.box 3 _ rfl⟩, ⟨QB.box 0 _ rfl, QB.box 1 _ rfl, QB.box 2 _ rfl, QB.box 3 _ rfl⟩, PA.box 7 _ rfl⟩ ?_
        · rintro w ⟨⟨h1, h2, h3, h4⟩, ⟨h5, h6, h7, h8⟩, h9⟩; go_simp <;> omega
        refine plist #[true, true, true, true, true, true, true, true, true, false] (by kernel_rfl) ?_
        refine pone 9 (by kernel_rfl) rfl fun K hK => ?_
        go_simp
        refine hK _ _ ⟨⟨QA.box 0 _ rfl, QA.box 1 _ rfl, QA.box 2 _ rfl, QA.box 3 _ rfl⟩, ⟨QB.box 0 _ rfl, QB.box 1 _ rfl, QB.box 2 _ rfl, QB.box 3 _ rfl⟩, PA.box 7 _ rfl⟩ ?_
        clear hK K
        refine pdone (by kernel_rfl) ?_ _
        go_wp2
        go_ret
        exact ⟨rfl, A⟩
      · have d3 : decide ((0 : Int) < mA) = false := by simp; omega
        clear hg
        go_wp2_with fail
        clear x3 x6 xf
        obtain ⟨V, hV⟩ : ∃ Z, W40.drew = Z := ⟨_, rfl⟩
        have hb : Below W40.heap.size W40 V := hV ▸ ⟨rfl, rfl, rfl, Nat.le_refl _, fun _ _ => rfl⟩
        have A2 := A.trans (hb.mono A.size)
        clear A
        have A := A2
        clear A2
        replace QA := QA.on hb
        replace QB := QB.on hb
        replace PA := PA.on hb
        replace i5 := i5.below hb
        have HV := Lib.hid hV
        clear hV hb
        refine pregion_any (fun X => (X.cell? ⟨X2.heap.size, 0, none⟩ = some (.string ⟨sA.toArray⟩) ∧ X.cell? ⟨X2.heap.size, 1, none⟩ = some (.string ⟨gA.toArray⟩) ∧ X.cell? ⟨X2.heap.size, 2, none⟩ = some (.int .i64 pA) ∧ X.cell? ⟨X2.heap.size, 3, none⟩ = some (.int .i64 mA)) ∧ (X.cell? ⟨X4.heap.size, 0, none⟩ = some (.string ⟨sB.toArray⟩) ∧ X.cell? ⟨X4.heap.size, 1, none⟩ = some (.string ⟨gB.toArray⟩) ∧ X.cell? ⟨X4.heap.size, 2, none⟩ = some (.int .i64 pB) ∧ X.cell? ⟨X4.heap.size, 3, none⟩ = some (.int .i64 mB)) ∧ X.cell? ⟨X6.heap.size, 7, none⟩ = some (.slice qkz nkz ckz)) (by kernel_rfl) ?_
        rw [HV.out]
        refine wpAnyH_take (i := 0) (v := (.pointer (some ⟨X6.heap.size, 7, none⟩))) rfl (by kernel_rfl) (by kernel_rfl) (by kernel_rfl) (fun _ _ _ h => h) (.inl ⟨by kernel_rfl, ?_⟩) ⟨⟨QA.box 0 _ rfl, QA.box 1 _ rfl, QA.box 2 _ rfl, QA.box 3 _ rfl⟩, ⟨QB.box 0 _ rfl, QB.box 1 _ rfl, QB.box 2 _ rfl, QB.box 3 _ rfl⟩, PA.box 7 _ rfl⟩ ?_
        · rintro w ⟨⟨h1, h2, h3, h4⟩, ⟨h5, h6, h7, h8⟩, h9⟩; go_simp <;> omega
        refine plist #[true, false, false, false, false, false, false, false, false, false] (by kernel_rfl) ?_
        refine wpAnyH_take (i := 1) (v := (.agg #[.slice qkz nkz ckz])) rfl (by kernel_rfl) (by kernel_rfl) (by kernel_rfl) (fun _ _ _ h => h) (.inl ⟨by kernel_rfl, ?_⟩) ⟨⟨QA.box 0 _ rfl, QA.box 1 _ rfl, QA.box 2 _ rfl, QA.box 3 _ rfl⟩, ⟨QB.box 0 _ rfl, QB.box 1 _ rfl, QB.box 2 _ rfl, QB.box 3 _ rfl⟩, PA.box 7 _ rfl⟩ ?_
        · rintro w ⟨⟨h1, h2, h3, h4⟩, ⟨h5, h6, h7, h8⟩, h9⟩; go_simp <;> omega
        refine plist #[true, true, false, false, false, false, false, false, false, false] (by kernel_rfl) ?_
        refine wpAnyH_take (i := 2) (v := (.agg #[.string ⟨sA.toArray⟩, .string ⟨gA.toArray⟩, .int .i64 pA, .int .i64 mA])) rfl (by kernel_rfl) (by kernel_rfl) (by kernel_rfl) (fun _ _ _ h => h) (.inl ⟨by kernel_rfl, ?_⟩) ⟨⟨QA.box 0 _ rfl, QA.box 1 _ rfl, QA.box 2 _ rfl, QA.box 3 _ rfl⟩, ⟨QB.box 0 _ rfl, QB.box 1 _ rfl, QB.box 2 _ rfl, QB.box 3 _ rfl⟩, PA.box 7 _ rfl⟩ ?_
        · rintro w ⟨⟨h1, h2, h3, h4⟩, ⟨h5, h6, h7, h8⟩, h9⟩; go_simp <;> omega
        refine plist #[true, true, true, false, false, false, false, false, false, false] (by kernel_rfl) ?_
        refine wpAnyH_take (i := 3) (v := (.agg #[.string ⟨sB.toArray⟩, .string ⟨gB.toArray⟩, .int .i64 pB, .int .i64 mB])) rfl (by kernel_rfl) (by kernel_rfl) (by kernel_rfl) (fun _ _ _ h => h) (.inl ⟨by kernel_rfl, ?_⟩) ⟨⟨QA.box 0 _ rfl, QA.box 1 _ rfl, QA.box 2 _ rfl, QA.box 3 _ rfl⟩, ⟨QB.box 0 _ rfl, QB.box 1 _ rfl, QB.box 2 _ rfl, QB.box 3 _ rfl⟩, PA.box 7 _ rfl⟩ ?_
        · rintro w ⟨⟨h1, h2, h3, h4⟩, ⟨h5, h6, h7, h8⟩, h9⟩; go_simp <;> omega
        refine plist #[true, true, true, true, false, false, false, false, false, false] (by kernel_rfl) ?_
        refine wpAnyH_take (i := 5) (v := (.pointer (some ⟨X4.heap.size, 3, none⟩))) rfl (by kernel_rfl) (by kernel_rfl) (by kernel_rfl) (fun _ _ _ h => h) (.inl ⟨by kernel_rfl, ?_⟩) ⟨⟨QA.box 0 _ rfl, QA.box 1 _ rfl, QA.box 2 _ rfl, QA.box 3 _ rfl⟩, ⟨QB.box 0 _ rfl, QB.box 1 _ rfl, QB.box 2 _ rfl, QB.box 3 _ rfl⟩, PA.box 7 _ rfl⟩ ?_
        · rintro w ⟨⟨h1, h2, h3, h4⟩, ⟨h5, h6, h7, h8⟩, h9⟩; go_simp <;> omega
        refine plist #[true, true, true, true, false, true, false, false, false, false] (by kernel_rfl) ?_
        refine wpAnyH_take (i := 6) (v := (.int .i64 mB)) rfl (by kernel_rfl) (by kernel_rfl) (by kernel_rfl) (fun _ _ _ h => h) (.inl ⟨by kernel_rfl, ?_⟩) ⟨⟨QA.box 0 _ rfl, QA.box 1 _ rfl, QA.box 2 _ rfl, QA.box 3 _ rfl⟩, ⟨QB.box 0 _ rfl, QB.box 1 _ rfl, QB.box 2 _ rfl, QB.box 3 _ rfl⟩, PA.box 7 _ rfl⟩ ?_
        · rintro w ⟨⟨h1, h2, h3, h4⟩, ⟨h5, h6, h7, h8⟩, h9⟩; go_simp <;> omega
        refine plist #[true, true, true, true, false, true, true, false, false, false] (by kernel_rfl) ?_
        refine wpAnyH_take (i := 7) (v := (.bool bb)) rfl (by kernel_rfl) (by kernel_rfl) (by kernel_rfl) (fun _ _ _ h => h) (.inl ⟨by kernel_rfl, ?_⟩) ⟨⟨QA.box 0 _ rfl, QA.box 1 _ rfl, QA.box 2 _ rfl, QA.box 3 _ rfl⟩, ⟨QB.box 0 _ rfl, QB.box 1 _ rfl, QB.box 2 _ rfl, QB.box 3 _ rfl⟩, PA.box 7 _ rfl⟩ ?_
        · rintro w ⟨⟨h1, h2, h3, h4⟩, ⟨h5, h6, h7, h8⟩, h9⟩; go_simp <;> omega
        refine plist #[true, true, true, true, false, true, true, true, false, false] (by kernel_rfl) ?_
        have con := Pol.Allows_any _ _ _ [allS] oA oB _ i5 (by decide) all_src.1 HOA.out HOB.out (HG.out.on A)
        rw [HQA.out, HQB.out, all_allows, HMB.out, HBD.out] at con
        refine pone 4 (by kernel_rfl) rfl fun K hK => ?_
        go_simp
        refine con.mono ?_
        rintro e Wy ⟨rfl, hb⟩
        have A2 := A.trans (hb.mono A.size)
        clear A
        have A := A2
        clear A2
        replace QA := QA.on hb
        replace QB := QB.on hb
        replace PA := PA.on hb
        replace i5 := i5.below hb
        clear con hb 
        refine hK _ _ ⟨⟨QA.box 0 _ rfl, QA.box 1 _ rfl, QA.box 2 _ rfl, QA.box 3 _ rfl⟩, ⟨QB.box 0 _ rfl, QB.box 1 _ rfl, QB.box 2 _ rfl, QB.box 3 _ rfl⟩, PA.box 7 _ rfl⟩ ?_
        clear hK K
        refine plist #[true, true, true, true, true, true, true, true, false, false] (by kernel_rfl) ?_
        refine wpAnyH_take (i := 8) (v := (.bool true)) rfl (by kernel_rfl) (by kernel_rfl) (by kernel_rfl) (fun _ _ _ h => h) (.inl ⟨by kernel_rfl, ?_⟩) ⟨⟨QA.box 0 _ rfl, QA.box 1 _ rfl, QA.box 2 _ rfl, QA.box 3 _ rfl⟩, ⟨QB.box 0 _ rfl, QB.box 1 _ rfl, QB.box 2 _ rfl, QB.box 3 _ rfl⟩, PA.box 7 _ rfl⟩ ?_
        · rintro w ⟨⟨h1, h2, h3, h4⟩, ⟨h5, h6, h7, h8⟩, h9⟩; go_simp <;> omega
        refine plist #[true, true, true, true, true, true, true, true, true, false] (by kernel_rfl) ?_
        refine pone 9 (by kernel_rfl) rfl fun K hK => ?_
        go_simp
        refine hK _ _ ⟨⟨QA.box 0 _ rfl, QA.box 1 _ rfl, QA.box 2 _ rfl, QA.box 3 _ rfl⟩, ⟨QB.box 0 _ rfl, QB.box 1 _ rfl, QB.box 2 _ rfl, QB.box 3 _ rfl⟩, PA.box 7 _ rfl⟩ ?_
        clear hK K
        refine pdone (by kernel_rfl) ?_ _
        go_wp2
        go_ret
        exact ⟨rfl, A⟩
  · have d1 : (fn == 0) = false := by simpa using hf
    clear hf
    by_cases hg : 0 < mA
    · have d3 : decide ((0 : Int) < mA) = true := by simp; omega
      have con := Frm.Len_any _ _ _ i4
      rw [show (plainP oA).prv = ownF oA from rfl, HOC.out hg] at con
      clear hg
      go_wp2_with fail
      refine con.mono ?_
      rintro e Wl ⟨rfl, hb⟩
      have A2 := A.trans (hb.mono A.size)
      clear A
      have A := A2
      clear A2
      replace QA := QA.on hb
      replace QB := QB.on hb
      replace PA := PA.on hb
      replace PQ := PQ.on hb
      replace i1 := i1.below hb
      replace i2 := i2.below hb
      replace i3 := i3.below hb
      replace i4 := i4.below hb
      replace i5 := i5.below hb
      replace i6 := i6.below hb
      replace j4 := j4.below hb
      replace j5 := j5.below hb
      replace hF := hF.below hb
      replace FO := (Keep.of_below hb).boxed FO FO.lt
      clear con hb x3 x6 xf
      have x3 := QA.box 3 _ rfl
      go_wp2_with fail
      clear x3
      obtain ⟨V, hV⟩ : ∃ Z, Wl.drew = Z := ⟨_, rfl⟩
      have hb : Below Wl.heap.size Wl V := hV ▸ ⟨rfl, rfl, rfl, Nat.le_refl _, fun _ _ => rfl⟩
      have A2 := A.trans (hb.mono A.size)
      clear A
      have A := A2
      clear A2
      replace QA := QA.on hb
      replace QB := QB.on hb
      replace PA := PA.on hb
      replace i5 := i5.below hb
      have HV := Lib.hid hV
      clear hV hb
      refine pregion_any (fun X => (X.cell? ⟨X2.heap.size, 0, none⟩ = some (.string ⟨sA.toArray⟩) ∧ X.cell? ⟨X2.heap.size, 1, none⟩ = some (.string ⟨gA.toArray⟩) ∧ X.cell? ⟨X2.heap.size, 2, none⟩ = some (.int .i64 pA) ∧ X.cell? ⟨X2.heap.size, 3, none⟩ = some (.int .i64 mA)) ∧ (X.cell? ⟨X4.heap.size, 0, none⟩ = some (.string ⟨sB.toArray⟩) ∧ X.cell? ⟨X4.heap.size, 1, none⟩ = some (.string ⟨gB.toArray⟩) ∧ X.cell? ⟨X4.heap.size, 2, none⟩ = some (.int .i64 pB) ∧ X.cell? ⟨X4.heap.size, 3, none⟩ = some (.int .i64 mB)) ∧ X.cell? ⟨X6.heap.size, 7, none⟩ = some (.slice qkz nkz ckz)) (by kernel_rfl) ?_
      rw [HV.out]
      refine wpAnyH_take (i := 0) (v := (.pointer (some ⟨X6.heap.size, 7, none⟩))) rfl (by kernel_rfl) (by kernel_rfl) (by kernel_rfl) (fun _ _ _ h => h) (.inl ⟨by kernel_rfl, ?_⟩) ⟨⟨QA.box 0 _ rfl, QA.box 1 _ rfl, QA.box 2 _ rfl, QA.box 3 _ rfl⟩, ⟨QB.box 0 _ rfl, QB.box 1 _ rfl, QB.box 2 _ rfl, QB.box 3 _ rfl⟩, PA.box 7 _ rfl⟩ ?_
      · rintro w ⟨⟨h1, h2, h3, h4⟩, ⟨h5, h6, h7, h8⟩, h9⟩; go_simp <;> omega
      refine plist #[true, false, false, false, false, false, false, false, false, false] (by kernel_rfl) ?_
      refine wpAnyH_take (i := 1) (v := (.agg #[.slice qkz nkz ckz])) rfl (by kernel_rfl) (by kernel_rfl) (by kernel_rfl) (fun _ _ _ h => h) (.inl ⟨by kernel_rfl, ?_⟩) ⟨⟨QA.box 0 _ rfl, QA.box 1 _ rfl, QA.box 2 _ rfl, QA.box 3 _ rfl⟩, ⟨QB.box 0 _ rfl, QB.box 1 _ rfl, QB.box 2 _ rfl, QB.box 3 _ rfl⟩, PA.box 7 _ rfl⟩ ?_
      · rintro w ⟨⟨h1, h2, h3, h4⟩, ⟨h5, h6, h7, h8⟩, h9⟩; go_simp <;> omega
      refine plist #[true, true, false, false, false, false, false, false, false, false] (by kernel_rfl) ?_
      refine wpAnyH_take (i := 2) (v := (.agg #[.string ⟨sA.toArray⟩, .string ⟨gA.toArray⟩, .int .i64 pA, .int .i64 mA])) rfl (by kernel_rfl) (by kernel_rfl) (by kernel_rfl) (fun _ _ _ h => h) (.inl ⟨by kernel_rfl, ?_⟩) ⟨⟨QA.box 0 _ rfl, QA.box 1 _ rfl, QA.box 2 _ rfl, QA.box 3 _ rfl⟩, ⟨QB.box 0 _ rfl, QB.box 1 _ rfl, QB.box 2 _ rfl, QB.box 3 _ rfl⟩, PA.box 7 _ rfl⟩ ?_
      · rintro w ⟨⟨h1, h2, h3, h4⟩, ⟨h5, h6, h7, h8⟩, h9⟩; go_simp <;> omega
      refine plist #[true, true, true, false, false, false, false, false, false, false] (by kernel_rfl) ?_
      refine wpAnyH_take (i := 3) (v := (.agg #[.string ⟨sB.toArray⟩, .string ⟨gB.toArray⟩, .int .i64 pB, .int .i64 mB])) rfl (by kernel_rfl) (by kernel_rfl) (by kernel_rfl) (fun _ _ _ h => h) (.inl ⟨by kernel_rfl, ?_⟩) ⟨⟨QA.box 0 _ rfl, QA.box 1 _ rfl, QA.box 2 _ rfl, QA.box 3 _ rfl⟩, ⟨QB.box 0 _ rfl, QB.box 1 _ rfl, QB.box 2 _ rfl, QB.box 3 _ rfl⟩, PA.box 7 _ rfl⟩ ?_
      · rintro w ⟨⟨h1, h2, h3, h4⟩, ⟨h5, h6, h7, h8⟩, h9⟩; go_simp <;> omega
      refine plist #[true, true, true, true, false, false, false, false, false, false] (by kernel_rfl) ?_
      refine wpAnyH_take (i := 5) (v := (.pointer (some ⟨X4.heap.size, 3, none⟩))) rfl (by kernel_rfl) (by kernel_rfl) (by kernel_rfl) (fun _ _ _ h => h) (.inl ⟨by kernel_rfl, ?_⟩) ⟨⟨QA.box 0 _ rfl, QA.box 1 _ rfl, QA.box 2 _ rfl, QA.box 3 _ rfl⟩, ⟨QB.box 0 _ rfl, QB.box 1 _ rfl, QB.box 2 _ rfl, QB.box 3 _ rfl⟩, PA.box 7 _ rfl⟩ ?_
      · rintro w ⟨⟨h1, h2, h3, h4⟩, ⟨h5, h6, h7, h8⟩, h9⟩; go_simp <;> omega
      refine plist #[true, true, true, true, false, true, false, false, false, false] (by kernel_rfl) ?_
      refine wpAnyH_take (i := 6) (v := (.int .i64 mB)) rfl (by kernel_rfl) (by kernel_rfl) (by kernel_rfl) (fun _ _ _ h => h) (.inl ⟨by kernel_rfl, ?_⟩) ⟨⟨QA.box 0 _ rfl, QA.box 1 _ rfl, QA.box 2 _ rfl, QA.box 3 _ rfl⟩, ⟨QB.box 0 _ rfl, QB.box 1 _ rfl, QB.box 2 _ rfl, QB.box 3 _ rfl⟩, PA.box 7 _ rfl⟩ ?_
      · rintro w ⟨⟨h1, h2, h3, h4⟩, ⟨h5, h6, h7, h8⟩, h9⟩; go_simp <;> omega
      refine plist #[true, true, true, true, false, true, true, false, false, false] (by kernel_rfl) ?_
      refine wpAnyH_take (i := 7) (v := (.bool bb)) rfl (by kernel_rfl) (by kernel_rfl) (by kernel_rfl) (fun _ _ _ h => h) (.inl ⟨by kernel_rfl, ?_⟩) ⟨⟨QA.box 0 _ rfl, QA.box 1 _ rfl, QA.box 2 _ rfl, QA.box 3 _ rfl⟩, ⟨QB.box 0 _ rfl, QB.box 1 _ rfl, QB.box 2 _ rfl, QB.box 3 _ rfl⟩, PA.box 7 _ rfl⟩ ?_
      · rintro w ⟨⟨h1, h2, h3, h4⟩, ⟨h5, h6, h7, h8⟩, h9⟩; go_simp <;> omega
      refine plist #[true, true, true, true, false, true, true, true, false, false] (by kernel_rfl) ?_
      have con := Pol.Allows_any _ _ _ [allS] oA oB _ i5 (by decide) all_src.1 HOA.out HOB.out (HG.out.on A)
      rw [HQA.out, HQB.out, all_allows, HMB.out, HBD.out] at con
      refine pone 4 (by kernel_rfl) rfl fun K hK => ?_
      go_simp
      refine con.mono ?_
      rintro e Wy ⟨rfl, hb⟩
      have A2 := A.trans (hb.mono A.size)
      clear A
      have A := A2
      clear A2
      replace QA := QA.on hb
      replace QB := QB.on hb
      replace PA := PA.on hb
      replace i5 := i5.below hb
      clear con hb 
      refine hK _ _ ⟨⟨QA.box 0 _ rfl, QA.box 1 _ rfl, QA.box 2 _ rfl, QA.box 3 _ rfl⟩, ⟨QB.box 0 _ rfl, QB.box 1 _ rfl, QB.box 2 _ rfl, QB.box 3 _ rfl⟩, PA.box 7 _ rfl⟩ ?_
      clear hK K
      refine plist #[true, true, true, true, true, true, true, true, false, false] (by kernel_rfl) ?_
      refine wpAnyH_take (i := 8) (v := (.bool true)) rfl (by kernel_rfl) (by kernel_rfl) (by kernel_rfl) (fun _ _ _ h => h) (.inl ⟨by kernel_rfl, ?_⟩) ⟨⟨QA.box 0 _ rfl, QA.box 1 _ rfl, QA.box 2 _ rfl, QA.box 3 _ rfl⟩, ⟨QB.box 0 _ rfl, QB.box 1 _ rfl, QB.box 2 _ rfl, QB.box 3 _ rfl⟩, PA.box 7 _ rfl⟩ ?_
      · rintro w ⟨⟨h1, h2, h3, h4⟩, ⟨h5, h6, h7, h8⟩, h9⟩; go_simp <;> omega
      refine plist #[true, true, true, true, true, true, true, true, true, false] (by kernel_rfl) ?_
      refine pone 9 (by kernel_rfl) rfl fun K hK => ?_
      go_simp
      refine hK _ _ ⟨⟨QA.box 0 _ rfl, QA.box 1 _ rfl, QA.box 2 _ rfl, QA.box 3 _ rfl⟩, ⟨QB.box 0 _ rfl, QB.box 1 _ rfl, QB.box 2 _ rfl, QB.box 3 _ rfl⟩, PA.box 7 _ rfl⟩ ?_
      clear hK K
      refine pdone (by kernel_rfl) ?_ _
      go_wp2
      go_ret
      exact ⟨rfl, A⟩
    · have d3 : decide ((0 : Int) < mA) = false := by simp; omega
      clear hg
      go_wp2_with fail
      clear x3 x6 xf
      obtain ⟨V, hV⟩ : ∃ Z, W40.drew = Z := ⟨_, rfl⟩
      have hb : Below W40.heap.size W40 V := hV ▸ ⟨rfl, rfl, rfl, Nat.le_refl _, fun _ _ => rfl⟩
      have A2 := A.trans (hb.mono A.size)
      clear A
      have A := A2
      clear A2
      replace QA := QA.on hb
      replace QB := QB.on hb
      replace PA := PA.on hb
      replace i5 := i5.below hb
      have HV := Lib.hid hV
      clear hV hb
      refine pregion_any (fun X => (X.cell? ⟨X2.heap.size, 0, none⟩ = some (.string ⟨sA.toArray⟩) ∧ X.cell? ⟨X2.heap.size, 1, none⟩ = some (.string ⟨gA.toArray⟩) ∧ X.cell? ⟨X2.heap.size, 2, none⟩ = some (.int .i64 pA) ∧ X.cell? ⟨X2.heap.size, 3, none⟩ = some (.int .i64 mA)) ∧ (X.cell? ⟨X4.heap.size, 0, none⟩ = some (.string ⟨sB.toArray⟩) ∧ X.cell? ⟨X4.heap.size, 1, none⟩ = some (.string ⟨gB.toArray⟩) ∧ X.cell? ⟨X4.heap.size, 2, none⟩ = some (.int .i64 pB) ∧ X.cell? ⟨X4.heap.size, 3, none⟩ = some (.int .i64 mB)) ∧ X.cell? ⟨X6.heap.size, 7, none⟩ = some (.slice qkz nkz ckz)) (by kernel_rfl) ?_
      rw [HV.out]
      refine wpAnyH_take (i := 0) (v := (.pointer (some ⟨X6.heap.size, 7, none⟩))) rfl (by kernel_rfl) (by kernel_rfl) (by kernel_rfl) (fun _ _ _ h => h) (.inl ⟨by kernel_rfl, ?_⟩) ⟨⟨QA.box 0 _ rfl, QA.box 1 _ rfl, QA.box 2 _ rfl, QA.box 3 _ rfl⟩, ⟨QB.box 0 _ rfl, QB.box 1 _ rfl, QB.box 2 _ rfl, QB.box 3 _ rfl⟩, PA.box 7 _ rfl⟩ ?_
      · rintro w ⟨⟨h1, h2, h3, h4⟩, ⟨h5, h6, h7, h8⟩, h9⟩; go_simp <;> omega
      refine plist #[true, false, false, false, false, false, false, false, false, false] (by kernel_rfl) ?_
      refine wpAnyH_take (i := 1) (v := (.agg #[.slice qkz nkz ckz])) rfl (by kernel_rfl) (by kernel_rfl) (by kernel_rfl) (fun _ _ _ h => h) (.inl ⟨by kernel_rfl, ?_⟩) ⟨⟨QA.box 0 _ rfl, QA.box 1 _ rfl, QA.box 2 _ rfl, QA.box 3 _ rfl⟩, ⟨QB.box 0 _ rfl, QB.box 1 _ rfl, QB.box 2 _ rfl, QB.box 3 _ rfl⟩, PA.box 7 _ rfl⟩ ?_
      · rintro w ⟨⟨h1, h2, h3, h4⟩, ⟨h5, h6, h7, h8⟩, h9⟩; go_simp <;> omega
      refine plist #[true, true, false, false, false, false, false, false, false, false] (by kernel_rfl) ?_
      refine wpAnyH_take (i := 2) (v := (.agg #[.string ⟨sA.toArray⟩, .string ⟨gA.toArray⟩, .int .i64 pA, .int .i64 mA])) rfl (by kernel_rfl) (by kernel_rfl) (by kernel_rfl) (fun _ _ _ h => h) (.inl ⟨by kernel_rfl, ?_⟩) ⟨⟨QA.box 0 _ rfl, QA.box 1 _ rfl, QA.box 2 _ rfl, QA.box 3 _ rfl⟩, ⟨QB.box 0 _ rfl, QB.box 1 _ rfl, QB.box 2 _ rfl, QB.box 3 _ rfl⟩, PA.box 7 _ rfl⟩ ?_
      · rintro w ⟨⟨h1, h2, h3, h4⟩, ⟨h5, h6, h7, h8⟩, h9⟩; go_simp <;> omega
      refine plist #[true, true, true, false, false, false, false, false, false, false] (by kernel_rfl) ?_
      refine wpAnyH_take (i := 3) (v := (.agg #[.string ⟨sB.toArray⟩, .string ⟨gB.toArray⟩, .int .i64 pB, .int .i64 mB])) rfl (by kernel_rfl) (by kernel_rfl) (by kernel_rfl) (fun _ _ _ h => h) (.inl ⟨by kernel_rfl, ?_⟩) ⟨⟨QA.box 0 _ rfl, QA.box 1 _ rfl, QA.box 2 _ rfl, QA.box 3 _ rfl⟩, ⟨QB.box 0 _ rfl, QB.box 1 _ rfl, QB.box 2 _ rfl, QB.box 3 _ rfl⟩, PA.box 7 _ rfl⟩ ?_
      · rintro w ⟨⟨h1, h2, h3, h4⟩, ⟨h5, h6, h7, h8⟩, h9⟩; go_simp <;> omega
      refine plist #[true, true, true, true, false, false, false, false, false, false] (by kernel_rfl) ?_
      refine wpAnyH_take (i := 5) (v := (.pointer (some ⟨X4.heap.size, 3, none⟩))) rfl (by kernel_rfl) (by kernel_rfl) (by kernel_rfl) (fun _ _ _ h => h) (.inl ⟨by kernel_rfl, ?_⟩) ⟨⟨QA.box 0 _ rfl, QA.box 1 _ rfl, QA.box 2 _ rfl, QA.box 3 _ rfl⟩, ⟨QB.box 0 _ rfl, QB.box 1 _ rfl, QB.box 2 _ rfl, QB.box 3 _ rfl⟩, PA.box 7 _ rfl⟩ ?_
      · rintro w ⟨⟨h1, h2, h3, h4⟩, ⟨h5, h6, h7, h8⟩, h9⟩; go_simp <;> omega
      refine plist #[true, true, true, true, false, true, false, false, false, false] (by kernel_rfl) ?_
      refine wpAnyH_take (i := 6) (v := (.int .i64 mB)) rfl (by kernel_rfl) (by kernel_rfl) (by kernel_rfl) (fun _ _ _ h => h) (.inl ⟨by kernel_rfl, ?_⟩) ⟨⟨QA.box 0 _ rfl, QA.box 1 _ rfl, QA.box 2 _ rfl, QA.box 3 _ rfl⟩, ⟨QB.box 0 _ rfl, QB.box 1 _ rfl, QB.box 2 _ rfl, QB.box 3 _ rfl⟩, PA.box 7 _ rfl⟩ ?_
      · rintro w ⟨⟨h1, h2, h3, h4⟩, ⟨h5, h6, h7, h8⟩, h9⟩; go_simp <;> omega
      refine plist #[true, true, true, true, false, true, true, false, false, false] (by kernel_rfl) ?_
      refine wpAnyH_take (i := 7) (v := (.bool bb)) rfl (by kernel_rfl) (by kernel_rfl) (by kernel_rfl) (fun _ _ _ h => h) (.inl ⟨by kernel_rfl, ?_⟩) ⟨⟨QA.box 0 _ rfl, QA.box 1 _ rfl, QA.box 2 _ rfl, QA.box 3 _ rfl⟩, ⟨QB.box 0 _ rfl, QB.box 1 _ rfl, QB.box 2 _ rfl, QB.box 3 _ rfl⟩, PA.box 7 _ rfl⟩ ?_
      · rintro w ⟨⟨h1, h2, h3, h4⟩, ⟨h5, h6, h7, h8⟩, h9⟩; go_simp <;> omega
      refine plist #[true, true, true, true, false, true, true, true, false, false] (by kernel_rfl) ?_
      have con := Pol.Allows_any _ _ _ [allS] oA oB _ i5 (by decide) all_src.1 HOA.out HOB.out (HG.out.on A)
      rw [HQA.out, HQB.out, all_allows, HMB.out, HBD.out] at con
      refine pone 4 (by kernel_rfl) rfl fun K hK => ?_
      go_simp
      refine con.mono ?_
      rintro e Wy ⟨rfl, hb⟩
      have A2 := A.trans (hb.mono A.size)
      clear A
      have A := A2
      clear A2
      replace QA := QA.on hb
      replace QB := QB.on hb
      replace PA := PA.on hb
      replace i5 := i5.below hb
      clear con hb 
      refine hK _ _ ⟨⟨QA.box 0 _ rfl, QA.box 1 _ rfl, QA.box 2 _ rfl, QA.box 3 _ rfl⟩, ⟨QB.box 0 _ rfl, QB.box 1 _ rfl, QB.box 2 _ rfl, QB.box 3 _ rfl⟩, PA.box 7 _ rfl⟩ ?_
      clear hK K
      refine plist #[true, true, true, true, true, true, true, true, false, false] (by kernel_rfl) ?_
      refine wpAnyH_take (i := 8) (v := (.bool true)) rfl (by kernel_rfl) (by kernel_rfl) (by kernel_rfl) (fun _ _ _ h => h) (.inl ⟨by kernel_rfl, ?_⟩) ⟨⟨QA.box 0 _ rfl, QA.box 1 _ rfl, QA.box 2 _ rfl, QA.box 3 _ rfl⟩, ⟨QB.box 0 _ rfl, QB.box 1 _ rfl, QB.box 2 _ rfl, QB.box 3 _ rfl⟩, PA.box 7 _ rfl⟩ ?_
      · rintro w ⟨⟨h1, h2, h3, h4⟩, ⟨h5, h6, h7, h8⟩, h9⟩; go_simp <;> omega
      refine plist #[true, true, true, true, true, true, true, true, true, false] (by kernel_rfl) ?_
      refine pone 9 (by kernel_rfl) rfl fun K hK => ?_
      go_simp
      refine hK _ _ ⟨⟨QA.box 0 _ rfl, QA.box 1 _ rfl, QA.box 2 _ rfl, QA.box 3 _ rfl⟩, ⟨QB.box 0 _ rfl, QB.box 1 _ rfl, QB.box 2 _ rfl, QB.box 3 _ rfl⟩, PA.box 7 _ rfl⟩ ?_
      clear hK K
      refine pdone (by kernel_rfl) ?_ _
      go_wp2
      go_ret
      exact ⟨rfl, A⟩

theorem proved : Rows.PolicyPlainCardSaid := card walk
end Go.Proofs.YtedglpfdibamdaaGreatDoor.policyPlain
