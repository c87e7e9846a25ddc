/- PolicyCovers: the law returns true at whatever input, and writes nothing that was there: its tied card. Conditions: none. -/
import Derived.Test.YtedglpfdibamdaaGreatDoorBaseH
import Derived.Deep.DeepCutAuto
namespace Go.Proofs.YtedglpfdibamdaaGreatDoor.policyCovers
open Go.RowKit Go.Shelf Url Org Frm Cls Lbl Pol
attribute [local go_sem] Oper.semAt_some
set_option linter.unusedVariables false

theorem row_by {w : World} {a : Option Addr} {len cap : Nat} {zs : List Int} (h : IsRow .u8 w a len cap zs) : ∃ bs : List UInt8, By w (.slice a len cap) bs := by
  rcases h with ⟨rfl, rfl, rfl, rfl⟩ | ⟨x, rfl, h1, h2, h3, h4, h5⟩
  · exact ⟨[], by_nil w⟩
  · have hz : ∀ i, i < len → (Lib.numsL (Lib.bytesOf (zs.take len))).getD i 0 = zs.getD i 0 := fun i hi => by
      have hi' : i < zs.length := by omega
      have hw := bounds_u8 (h5 _ (List.getElem_mem hi'))
      have : (Lib.bytesOf (zs.take len)).getD i 0 = UInt8.ofNat (zs[i]).toNat := by
        simp [Lib.bytesOf, List.getD, hi, List.getElem?_eq_getElem hi']
      rw [numsL_getD _ _ (by simp [Lib.bytesOf]; omega), this, List.getD, List.getElem?_eq_getElem hi']
      simp only [Option.getD_some, UInt8.toNat_ofNat']
      omega
    refine ⟨Lib.bytesOf (zs.take len), By.of (by simp [Lib.bytesOf]; omega) h1 h2 (fun h => by cases h) (Lib.BytesIn.of_cells fun i hi => ?_)⟩
    rw [hz i hi]
    exact h4 i (by omega)

/-- A block that holds a policy. -/
def PB (B : Nat) (cs : Array Value) (X : World) : Prop := X.heap[B]? = some (.cells cs 38 (0, 0))
theorem PB.box {B : Nat} {cs : Array Value} {X : World} (h : PB B cs X) : Box B cs X := fun i x hx => by
  simp only [World.cell?, show X.heap[B]? = _ from h]; exact hx
theorem PB.on {B : Nat} {cs : Array Value} {X Y : World} (h : PB B cs X) (hk : Below X.heap.size X Y) : PB B cs Y := (hk.block B (Array.getElem?_eq_some_iff.1 h).1).trans h
theorem PB.new (w : World) (cs : Array Value) : PB w.heap.size cs (w.alloc (.cells cs 38)) := World.alloc_heap_new w _

def sl3 (z : Option Addr × Nat × Nat) : Value := .slice z.1 z.2.1 z.2.2
theorem fld_prv (v0 v1 v2 v3 v4 v5 v6 v7 v8 : Option Addr × Nat × Nat) (w : World) : (Instr.field 38 (.agg #[sl3 v0, sl3 v1, sl3 v2, sl3 v3, sl3 v4, sl3 v5, sl3 v6, sl3 v7, sl3 v8]) 3).run Tryz.prog w = .ok (.agg #[sl3 v6]) w := by kernel_rfl
theorem agg_one {a b : Value} (h : Value.agg #[a] = Value.agg #[b]) : a = b := by cases h; rfl
theorem agg_two {a b c d : Value} (h : Value.agg #[a, b] = Value.agg #[c, d]) : a = c ∧ b = d := by cases h; exact ⟨rfl, rfl⟩
/-- A policy's nine slices. -/
theorem pol_form {w : World} {v : Value} {p : PolP} (h : PolIs w v p) : ∃ qdz ndz cdz qdy ndy cdy qcz ncz ccz qcy ncy ccy qrz nrz crz qry nry cry qpz npz cpz qkz nkz ckz qfz nfz cfz, v = .agg #[.slice qdz ndz cdz, .slice qdy ndy cdy, .slice qcz ncz ccz, .slice qcy ncy ccy, .slice qrz nrz crz, .slice qry nry cry, .slice qpz npz cpz, .slice qkz nkz ckz, .slice qfz nfz cfz] ∧ LabIs w (.agg #[.slice qcz ncz ccz, .slice qcy ncy ccy]) p.ctx ∧ LabIs w (.agg #[.slice qrz nrz crz, .slice qry nry cry]) p.clr ∧ FrmIs w (.agg #[.slice qpz npz cpz]) p.prv := by
  obtain ⟨d0, d1, c0, c1, r0, r1, p0, k0, f0, rfl, h1, h2, h3, h4, h5, h6⟩ := h
  obtain ⟨a1, a2, a3, a4, a5, a6, e1, -, -⟩ := id h1
  obtain ⟨b1, b2, b3, b4, b5, b6, e2, -, -⟩ := id h2
  obtain ⟨g1, g2, g3, g4, g5, g6, e3, -, -⟩ := id h3
  obtain ⟨j1, j2, j3, e4⟩ := frm_form h4
  obtain ⟨k1, k2, k3, e5, -, -, -⟩ := h5
  obtain ⟨l1, l2, l3, e6, -, -, -⟩ := h6
  obtain ⟨rfl, rfl⟩ := agg_two e1
  obtain ⟨rfl, rfl⟩ := agg_two e2
  obtain ⟨rfl, rfl⟩ := agg_two e3
  obtain rfl := agg_one e4
  obtain rfl := agg_one e5
  obtain rfl := agg_one e6
  exact ⟨_, _, _, _, _, _, _, _, _, _, _, _, _, _, _, _, _, _, _, _, _, _, _, _, _, _, _, rfl, h2, h3, h4⟩
theorem of_good (l : List Hdr.Fld) (o : QO) (hl : ∀ f ∈ l, f.2.length ≤ 1300) : impB (ownF o) (Pol.pV (ofP l o)).prv = true ∧ flowsB (Pol.pV (ofP l o)).ctx (Pol.pV (ofP l o)).clr = true ∧ (Pol.pV (ofP l o)).prv.length ≤ 1000 ∧ Few (Pol.pV (ofP l o)).ctx ∧ Few (Pol.pV (ofP l o)).clr := by
  cases h : ofP l o with
  | inl e => exact ⟨rfl, rfl, Nat.zero_le _, ⟨Nat.zero_le _, Nat.zero_le _⟩, ⟨Nat.zero_le _, Nat.zero_le _⟩⟩
  | inr p =>
    obtain ⟨h1, h2⟩ := of_covers l o p h
    have h3 := of_parts l o p hl h
    exact ⟨h1, h2, Nat.le_trans h3.prv (by decide), lok_few h3.ctx, lok_few h3.clr⟩
theorem bounds (tx : List UInt8) (h : tx.length ≤ 1200) : (Hdr.pH (Hdr.parseH tx)).length ≤ 64 ∧ ∀ f ∈ Hdr.pH (Hdr.parseH tx), f.1.length ≤ 1300 ∧ f.2.length ≤ 1300 := by
  cases e : Hdr.parseH tx with
  | inl n => exact ⟨Nat.zero_le _, fun f (hf : f ∈ ([] : List Hdr.Fld)) => by cases hf⟩
  | inr x =>
    obtain ⟨h1, h2, _⟩ := Hdr.parse_small tx x.1 x.2 e
    exact ⟨h2, fun f hf => by obtain ⟨-, g1, g2⟩ := h1 f hf; exact ⟨by omega, by omega⟩⟩

set_option maxRecDepth 100000 in
set_option maxHeartbeats 32000000 in
theorem walk : Walks := by
  intro a0 len0 cap0 z0 a1 len1 cap1 z1 w w0 w1 hG hU
  have HU := Lib.hid hU
  clear hU
  obtain ⟨tx, hx⟩ := row_by w0
  obtain ⟨tA, hA⟩ := row_by w1
  clear w0 w1
  have hl0 := hx.at.1
  by_cases hbig : 1200 < len0
  · have d1 : decide ((1200 : Int) < (len0 : Int)) = true := by simp; omega
    clear hx hA hl0 hbig
    have con := Pol.lives_any w hG
    have HG := Lib.hid hG
    clear hG
    go_enter Tryz.func5, Tryz.ntmps5
    go_wp2_with fail
    refine con.mono ?_
    rintro e w2 ⟨rfl, hb2⟩
    have con := Pol.lives_any w2 (HG.out.on hb2)
    go_wp2_with fail
    refine con.mono ?_
    rintro e w3 ⟨rfl, hb3⟩
    go_wp2
    go_ret
    exact ⟨rfl, hb2.trans (hb3.mono hb2.size)⟩
  · have d1 : decide ((1200 : Int) < (len0 : Int)) = false := by simp; omega
    have hn : len0 ≤ 1048576 := by omega
    have HL := Lib.hid (show tx.length ≤ 1200 by omega)
    have con := Pol.lives_any w hG
    have HG := Lib.hid hG
    clear hG hl0 hbig
    go_enter Tryz.func5, Tryz.ntmps5
    go_wp2_with fail
    refine con.mono ?_
    rintro e X1 ⟨rfl, B_1⟩
    clear con
    replace hx := hx.on B_1
    replace hA := hA.on B_1
    have con := Hdr.Parse_any a0 len0 cap0 tx X1 (HU.out.on B_1) hx hn
    have HPB := Lib.hid (bounds tx HL.out)
    generalize Hdr.parseH tx = R at *
    clear hx hn
    go_wp2_with fail
    refine con.mono ?_
    rintro e X2 ⟨q, n, c, q2, n2, c2, rfl, hH, -, hb⟩
    have B_2 := B_1.trans (hb.mono B_1.size)
    have hbx : Below X2.heap.size X2 (X2.alloc (.cells #[.slice q n c] 42)) := (Below.refl _ X2).alloc (Nat.le_refl _) _
    have H3 := hH.below hbx
    have K3 := Boxed.new X2 42 (.slice q n c)
    have B_3 := B_2.trans (hbx.mono B_2.size)
    replace hA := (hA.on hb).on hbx
    obtain ⟨en, hen⟩ : ∃ e, Hdr.pE R = e := ⟨_, rfl⟩
    have HEN := Lib.hid hen
    rewrite [hen]
    have hnl := hH.len
    obtain ⟨HN64, HSM⟩ := HPB.out
    have HN := Lib.hid (show n ≤ 64 by omega)
    replace HSM := Lib.hid HSM
    obtain ⟨L, hL⟩ : ∃ l, Hdr.pH R = l := ⟨_, rfl⟩
    have HLE := Lib.hid hL
    rw [hL] at H3 HSM
    clear con hb hbx hH B_1 B_2 d1 hen hnl HN64 hL HPB
    have con := Pol.lawOf_any a1 len1 cap1 tA (X2.alloc (.cells #[.slice q n c] 42)) hA (HG.out.on B_3)
    have HOA := Lib.hid (q_okQ (tA.take 300) (Nat.le_trans (List.length_take_le _ _) (by decide)))
    generalize qOf (parseQ 1099511627776 (tA.take 300)) = oA at con HOA
    obtain ⟨⟨⟨sA, gA⟩, ⟨pA, mA⟩⟩, hpA⟩ : ∃ x, partsQ oA = x := ⟨_, rfl⟩
    have HQA := Lib.hid (show orgQ oA = .agg #[.string ⟨sA.toArray⟩, .string ⟨gA.toArray⟩, .int .i64 pA, .int .i64 mA] by unfold orgQ orgV; rw [hpA])
    rw [HQA.out] at con
    clear hA hpA
    go_wp2_with fail
    refine con.mono ?_
    rintro e X4 ⟨rfl, hb⟩
    have B_4 := B_3.trans (hb.mono B_3.size)
    have hX : Below X4.heap.size X4 ((X4.alloc (.cells #[.string ⟨sA.toArray⟩, .string ⟨gA.toArray⟩, .int .i64 pA, .int .i64 mA] 25)).alloc (.cells #[.string ⟨sA.toArray⟩, .string ⟨gA.toArray⟩, .int .i64 pA, .int .i64 mA] 26)) := ((Below.refl _ X4).alloc (Nat.le_refl _) _).alloc (by simp) _
    have QA : OB X4.heap.size #[.string ⟨sA.toArray⟩, .string ⟨gA.toArray⟩, .int .i64 pA, .int .i64 mA] ((X4.alloc (.cells #[.string ⟨sA.toArray⟩, .string ⟨gA.toArray⟩, .int .i64 pA, .int .i64 mA] 25)).alloc (.cells #[.string ⟨sA.toArray⟩, .string ⟨gA.toArray⟩, .int .i64 pA, .int .i64 mA] 26)) := (OB.new X4 _).on ((Below.refl _ _).alloc (Nat.le_refl _) _)
    have B_5 := B_4.trans (hX.mono B_4.size)
    replace H3 := (H3.below hb).below hX
    replace K3 := (Keep.of_below (hb.trans (hX.mono hb.size))).boxed K3 K3.lt
    have con := Pol.Of_any _ q n c L oA ((X4.alloc (.cells #[.string ⟨sA.toArray⟩, .string ⟨gA.toArray⟩, .int .i64 pA, .int .i64 mA] 25)).alloc (.cells #[.string ⟨sA.toArray⟩, .string ⟨gA.toArray⟩, .int .i64 pA, .int .i64 mA] 26)) H3 HN.out HSM.out HOA.out (HG.out.on B_5)
    rw [HQA.out] at con
    have HGD := Lib.hid (of_good L oA (fun f hf => (HSM.out f hf).2))
    obtain ⟨RP, hRP⟩ : ∃ r, ofP L oA = r := ⟨_, rfl⟩
    rw [hRP] at con HGD
    have x0 := K3.cell
    clear hb hX B_3 B_4 H3 hRP
    go_wp2_with fail
    refine con.mono ?_
    rintro e X6 ⟨v6, rfl, hP, hb⟩
    obtain ⟨qdz, ndz, cdz, qdy, ndy, cdy, qcz, ncz, ccz, qcy, ncy, ccy, qrz, nrz, crz, qry, nry, cry, qpz, npz, cpz, qkz, nkz, ckz, qfz, nfz, cfz, rfl, i1, i2, i3⟩ := pol_form hP
    have hX : Below X6.heap.size X6 (X6.alloc (.cells #[.slice qdz ndz cdz, .slice qdy ndy cdy, .slice qcz ncz ccz, .slice qcy ncy ccy, .slice qrz nrz crz, .slice qry nry cry, .slice qpz npz cpz, .slice qkz nkz ckz, .slice qfz nfz cfz] 38)) := (Below.refl _ X6).alloc (Nat.le_refl _) _
    have B_6 := B_5.trans (hb.mono B_5.size)
    have B_7 := B_6.trans (hX.mono B_6.size)
    have P7 := PB.new X6 #[.slice qdz ndz cdz, .slice qdy ndy cdy, .slice qcz ncz ccz, .slice qcy ncy ccy, .slice qrz nrz crz, .slice qry nry cry, .slice qpz npz cpz, .slice qkz nkz ckz, .slice qfz nfz cfz]
    replace QA := (QA.on hb).on hX
    replace i1 := i1.below hX
    replace i2 := i2.below hX
    replace i3 := i3.below hX
    obtain ⟨fn, hfn⟩ : ∃ e, Pol.pE RP = e := ⟨_, rfl⟩
    have HFN := Lib.hid hfn
    rewrite [hfn]
    clear con hb hX B_5 B_6 K3 x0 hfn
    by_cases he : en = 0
    · subst he
      by_cases hf : fn = 0
      · subst hf
        obtain ⟨W, hW⟩ : ∃ Z, (X6.alloc (.cells #[.slice qdz ndz cdz, .slice qdy ndy cdy, .slice qcz ncz ccz, .slice qcy ncy ccy, .slice qrz nrz crz, .slice qry nry cry, .slice qpz npz cpz, .slice qkz nkz ckz, .slice qfz nfz cfz] 38)).drew = Z := ⟨_, rfl⟩
        have hb : Below (X6.alloc (.cells #[.slice qdz ndz cdz, .slice qdy ndy cdy, .slice qcz ncz ccz, .slice qcy ncy ccy, .slice qrz nrz crz, .slice qry nry cry, .slice qpz npz cpz, .slice qkz nkz ckz, .slice qfz nfz cfz] 38)).heap.size (X6.alloc (.cells #[.slice qdz ndz cdz, .slice qdy ndy cdy, .slice qcz ncz ccz, .slice qcy ncy ccy, .slice qrz nrz crz, .slice qry nry cry, .slice qpz npz cpz, .slice qkz nkz ckz, .slice qfz nfz cfz] 38)) W := hW ▸ ⟨rfl, rfl, rfl, Nat.le_refl _, fun _ _ => rfl⟩
        have A := B_7
        have A2 := A.trans (hb.mono A.size)
        clear A
        have A := A2
        clear A2
        replace QA := QA.on hb
        replace P7 := P7.on hb
        replace i1 := i1.below hb
        replace i2 := i2.below hb
        replace i3 := i3.below hb
        have HW := Lib.hid hW
        have HPL := Lib.hid (fun W (hg : Gl W) => Plain_any oA W HOA.out hg)
        rw [HQA.out] at HPL
        obtain ⟨g1, g2, g3, g4, g5⟩ := HGD.out
        have G1 := Lib.hid g1
        have G2 := Lib.hid g2
        have G3 := Lib.hid g3
        have G4 := Lib.hid g4
        have G5 := Lib.hid g5
        clear hW hb B_7 g1 g2 g3 g4 g5 HGD
        go_wp2_with fail
        refine pregion_any (fun X => (X.cell? ⟨X4.heap.size, 0, none⟩ = some (.string ⟨sA.toArray⟩) ∧ X.cell? ⟨X4.heap.size, 1, none⟩ = some (.string ⟨gA.toArray⟩) ∧ X.cell? ⟨X4.heap.size, 2, none⟩ = some (.int .i64 pA) ∧ X.cell? ⟨X4.heap.size, 3, none⟩ = some (.int .i64 mA)) ∧ X.cell? ⟨X6.heap.size, 2, none⟩ = some (.slice qcz ncz ccz) ∧ X.cell? ⟨X6.heap.size, 3, none⟩ = some (.slice qcy ncy ccy) ∧ X.cell? ⟨X6.heap.size, 4, none⟩ = some (.slice qrz nrz crz) ∧ X.cell? ⟨X6.heap.size, 5, none⟩ = some (.slice qry nry cry) ∧ X.cell? ⟨X6.heap.size, 6, none⟩ = some (.slice qpz npz cpz)) (by kernel_rfl) ?_
        rw [HW.out]
        refine wpAnyH_take (i := 0) (v := (.agg #[.string ⟨sA.toArray⟩, .string ⟨gA.toArray⟩, .int .i64 pA, .int .i64 mA])) rfl (by kernel_rfl) (by kernel_rfl) (by kernel_rfl) (fun _ _ _ h => h) (.inl ⟨by kernel_rfl, ?_⟩) ⟨⟨QA.box 0 _ rfl, QA.box 1 _ rfl, QA.box 2 _ rfl, QA.box 3 _ rfl⟩, P7.box 2 _ rfl, P7.box 3 _ rfl, P7.box 4 _ rfl, P7.box 5 _ rfl, P7.box 6 _ rfl⟩ ?_
        · rintro w ⟨⟨h1, h2, h3, h4⟩, h5, h6, h7, h8, h9⟩; go_simp <;> omega
        refine plist #[true, false, false, false, false, false, false, false, false, false, false, false, false, false] (by kernel_rfl) ?_
        refine wpAnyH_take (i := 3) (v := (.pointer (some ⟨X6.heap.size, 6, none⟩))) rfl (by kernel_rfl) (by kernel_rfl) (by kernel_rfl) (fun _ _ _ h => h) (.inl ⟨by kernel_rfl, ?_⟩) ⟨⟨QA.box 0 _ rfl, QA.box 1 _ rfl, QA.box 2 _ rfl, QA.box 3 _ rfl⟩, P7.box 2 _ rfl, P7.box 3 _ rfl, P7.box 4 _ rfl, P7.box 5 _ rfl, P7.box 6 _ rfl⟩ ?_
        · rintro w ⟨⟨h1, h2, h3, h4⟩, h5, h6, h7, h8, h9⟩; go_simp <;> omega
        refine plist #[true, false, false, true, false, false, false, false, false, false, false, false, false, false] (by kernel_rfl) ?_
        refine wpAnyH_take (i := 4) (v := (.agg #[.slice qpz npz cpz])) rfl (by kernel_rfl) (by kernel_rfl) (by kernel_rfl) (fun _ _ _ h => h) (.inl ⟨by kernel_rfl, ?_⟩) ⟨⟨QA.box 0 _ rfl, QA.box 1 _ rfl, QA.box 2 _ rfl, QA.box 3 _ rfl⟩, P7.box 2 _ rfl, P7.box 3 _ rfl, P7.box 4 _ rfl, P7.box 5 _ rfl, P7.box 6 _ rfl⟩ ?_
        · rintro w ⟨⟨h1, h2, h3, h4⟩, h5, h6, h7, h8, h9⟩; go_simp <;> omega
        refine plist #[true, false, false, true, true, false, false, false, false, false, false, false, false, false] (by kernel_rfl) ?_
        have con := HPL.out _ (HG.out.on A)
        refine pone 1 (by kernel_rfl) rfl fun K hK => ?_
        go_simp
        refine con.mono ?_
        rintro e Wa ⟨vo, rfl, hP, hb⟩
        obtain ⟨ua, ub, uc, ud, ue, uf, ug, uh, ui, uj, uk, ul, um, un, uo, up, uq, ur, us, ut, uu, uv, uw, ux, uy, uz, u0, rfl, -, -, io⟩ := pol_form hP
        have A2 := A.trans (hb.mono A.size)
        clear A
        have A := A2
        clear A2
        replace QA := QA.on hb
        replace P7 := P7.on hb
        replace i1 := i1.below hb
        replace i2 := i2.below hb
        replace i3 := i3.below hb
        clear con hb hP HPL
        refine hK _ _ ⟨⟨QA.box 0 _ rfl, QA.box 1 _ rfl, QA.box 2 _ rfl, QA.box 3 _ rfl⟩, P7.box 2 _ rfl, P7.box 3 _ rfl, P7.box 4 _ rfl, P7.box 5 _ rfl, P7.box 6 _ rfl⟩ ?_
        clear hK K
        have hfl : ∀ W : World, (Instr.field 38 (.agg #[.slice ua ub uc, .slice ud ue uf, .slice ug uh ui, .slice uj uk ul, .slice um un uo, .slice up uq ur, .slice us ut uu, .slice uv uw ux, .slice uy uz u0]) 3).run Tryz.prog W = .ok (.agg #[.slice us ut uu]) W := fun W => fld_prv (ua, ub, uc) (ud, ue, uf) (ug, uh, ui) (uj, uk, ul) (um, un, uo) (up, uq, ur) (us, ut, uu) (uv, uw, ux) (uy, uz, u0) W
        refine plist #[true, true, false, true, true, false, false, false, false, false, false, false, false, false] (by kernel_rfl) ?_
        refine wpAnyH_take (i := 2) (v := (.agg #[.slice us ut uu])) rfl (by kernel_rfl) (by kernel_rfl) (by kernel_rfl) (fun _ _ _ h => h) (.inl ⟨by kernel_rfl, ?_⟩) ⟨⟨QA.box 0 _ rfl, QA.box 1 _ rfl, QA.box 2 _ rfl, QA.box 3 _ rfl⟩, P7.box 2 _ rfl, P7.box 3 _ rfl, P7.box 4 _ rfl, P7.box 5 _ rfl, P7.box 6 _ rfl⟩ ?_
        · rintro w ⟨⟨h1, h2, h3, h4⟩, h5, h6, h7, h8, h9⟩; go_simp <;> omega
        refine plist #[true, true, true, true, true, false, false, false, false, false, false, false, false, false] (by kernel_rfl) ?_
        have con := Prv.Covers_any _ _ (ownF oA) _ _ io i3 (Nat.le_trans (own_len oA) (by decide)) G3.out
        rw [G1.out] at con
        refine pone 5 (by kernel_rfl) rfl fun K hK => ?_
        go_simp
        refine con.mono ?_
        rintro e Wb ⟨rfl, hb⟩
        have A2 := A.trans (hb.mono A.size)
        clear A
        have A := A2
        clear A2
        replace QA := QA.on hb
        replace P7 := P7.on hb
        replace i1 := i1.below hb
        replace i2 := i2.below hb
        replace i3 := i3.below hb
        clear con hb io
        refine hK _ _ ⟨⟨QA.box 0 _ rfl, QA.box 1 _ rfl, QA.box 2 _ rfl, QA.box 3 _ rfl⟩, P7.box 2 _ rfl, P7.box 3 _ rfl, P7.box 4 _ rfl, P7.box 5 _ rfl, P7.box 6 _ rfl⟩ ?_
        clear hK K
        refine plist #[true, true, true, true, true, true, false, false, false, false, false, false, false, false] (by kernel_rfl) ?_
        refine wpAnyH_take (i := 6) (v := (.bool true)) rfl (by kernel_rfl) (by kernel_rfl) (by kernel_rfl) (fun _ _ _ h => h) (.inl ⟨by kernel_rfl, ?_⟩) ⟨⟨QA.box 0 _ rfl, QA.box 1 _ rfl, QA.box 2 _ rfl, QA.box 3 _ rfl⟩, P7.box 2 _ rfl, P7.box 3 _ rfl, P7.box 4 _ rfl, P7.box 5 _ rfl, P7.box 6 _ rfl⟩ ?_
        · rintro w ⟨⟨h1, h2, h3, h4⟩, h5, h6, h7, h8, h9⟩; go_simp <;> omega
        refine plist #[true, true, true, true, true, true, true, false, false, false, false, false, false, false] (by kernel_rfl) ?_
        refine wpAnyH_take (i := 7) (v := (.pointer (some ⟨X6.heap.size, 2, none⟩))) rfl (by kernel_rfl) (by kernel_rfl) (by kernel_rfl) (fun _ _ _ h => h) (.inl ⟨by kernel_rfl, ?_⟩) ⟨⟨QA.box 0 _ rfl, QA.box 1 _ rfl, QA.box 2 _ rfl, QA.box 3 _ rfl⟩, P7.box 2 _ rfl, P7.box 3 _ rfl, P7.box 4 _ rfl, P7.box 5 _ rfl, P7.box 6 _ rfl⟩ ?_
        · rintro w ⟨⟨h1, h2, h3, h4⟩, h5, h6, h7, h8, h9⟩; go_simp <;> omega
        refine plist #[true, true, true, true, true, true, true, true, false, false, false, false, false, false] (by kernel_rfl) ?_
        refine wpAnyH_take (i := 8) (v := (.agg #[.slice qcz ncz ccz, .slice qcy ncy ccy])) rfl (by kernel_rfl) (by kernel_rfl) (by kernel_rfl) (fun _ _ _ h => h) (.inl ⟨by kernel_rfl, ?_⟩) ⟨⟨QA.box 0 _ rfl, QA.box 1 _ rfl, QA.box 2 _ rfl, QA.box 3 _ rfl⟩, P7.box 2 _ rfl, P7.box 3 _ rfl, P7.box 4 _ rfl, P7.box 5 _ rfl, P7.box 6 _ rfl⟩ ?_
        · rintro w ⟨⟨h1, h2, h3, h4⟩, h5, h6, h7, h8, h9⟩; go_simp <;> omega
        refine plist #[true, true, true, true, true, true, true, true, true, false, false, false, false, false] (by kernel_rfl) ?_
        refine wpAnyH_take (i := 9) (v := (.pointer (some ⟨X6.heap.size, 4, none⟩))) rfl (by kernel_rfl) (by kernel_rfl) (by kernel_rfl) (fun _ _ _ h => h) (.inl ⟨by kernel_rfl, ?_⟩) ⟨⟨QA.box 0 _ rfl, QA.box 1 _ rfl, QA.box 2 _ rfl, QA.box 3 _ rfl⟩, P7.box 2 _ rfl, P7.box 3 _ rfl, P7.box 4 _ rfl, P7.box 5 _ rfl, P7.box 6 _ rfl⟩ ?_
        · rintro w ⟨⟨h1, h2, h3, h4⟩, h5, h6, h7, h8, h9⟩; go_simp <;> omega
        refine plist #[true, true, true, true, true, true, true, true, true, true, false, false, false, false] (by kernel_rfl) ?_
        refine wpAnyH_take (i := 10) (v := (.agg #[.slice qrz nrz crz, .slice qry nry cry])) rfl (by kernel_rfl) (by kernel_rfl) (by kernel_rfl) (fun _ _ _ h => h) (.inl ⟨by kernel_rfl, ?_⟩) ⟨⟨QA.box 0 _ rfl, QA.box 1 _ rfl, QA.box 2 _ rfl, QA.box 3 _ rfl⟩, P7.box 2 _ rfl, P7.box 3 _ rfl, P7.box 4 _ rfl, P7.box 5 _ rfl, P7.box 6 _ rfl⟩ ?_
        · rintro w ⟨⟨h1, h2, h3, h4⟩, h5, h6, h7, h8, h9⟩; go_simp <;> omega
        refine plist #[true, true, true, true, true, true, true, true, true, true, true, false, false, false] (by kernel_rfl) ?_
        have con := Lbl.Flows_any _ _ _ _ _ i1 i2 G4.out G5.out
        rw [G2.out] at con
        refine pone 11 (by kernel_rfl) rfl fun K hK => ?_
        go_simp
        refine con.mono ?_
        rintro e Wc ⟨rfl, hb⟩
        have A2 := A.trans (hb.mono A.size)
        clear A
        have A := A2
        clear A2
        replace QA := QA.on hb
        replace P7 := P7.on hb
        replace i1 := i1.below hb
        replace i2 := i2.below hb
        replace i3 := i3.below hb
        clear con hb 
        refine hK _ _ ⟨⟨QA.box 0 _ rfl, QA.box 1 _ rfl, QA.box 2 _ rfl, QA.box 3 _ rfl⟩, P7.box 2 _ rfl, P7.box 3 _ rfl, P7.box 4 _ rfl, P7.box 5 _ rfl, P7.box 6 _ rfl⟩ ?_
        clear hK K
        refine plist #[true, true, true, true, true, true, true, true, true, true, true, true, false, false] (by kernel_rfl) ?_
        refine wpAnyH_take (i := 12) (v := (.bool true)) rfl (by kernel_rfl) (by kernel_rfl) (by kernel_rfl) (fun _ _ _ h => h) (.inl ⟨by kernel_rfl, ?_⟩) ⟨⟨QA.box 0 _ rfl, QA.box 1 _ rfl, QA.box 2 _ rfl, QA.box 3 _ rfl⟩, P7.box 2 _ rfl, P7.box 3 _ rfl, P7.box 4 _ rfl, P7.box 5 _ rfl, P7.box 6 _ rfl⟩ ?_
        · rintro w ⟨⟨h1, h2, h3, h4⟩, h5, h6, h7, h8, h9⟩; go_simp <;> omega
        refine plist #[true, true, true, true, true, true, true, true, true, true, true, true, true, false] (by kernel_rfl) ?_
        refine pone 13 (by kernel_rfl) rfl fun K hK => ?_
        go_simp
        refine hK _ _ ⟨⟨QA.box 0 _ rfl, QA.box 1 _ rfl, QA.box 2 _ rfl, QA.box 3 _ rfl⟩, P7.box 2 _ rfl, P7.box 3 _ rfl, P7.box 4 _ rfl, P7.box 5 _ rfl, P7.box 6 _ rfl⟩ ?_
        clear hK K
        refine pdone (by kernel_rfl) ?_ _
        go_wp2
        go_ret
        exact ⟨rfl, A⟩
      · have d2 : (fn != 0) = true := by simpa using hf
        have hz : pV RP = zeroP := by
          cases RP with
          | inl e' => rfl
          | inr p => exact absurd HFN.out.symm hf
        rw [hz] at i3
        have con := Frm.Len_any _ _ _ i3
        have y6 := P7.box 6 _ rfl
        clear hf hz
        go_wp2_with fail
        refine con.mono ?_
        rintro e X8 ⟨rfl, hb⟩
        have B_8 := B_7.trans (hb.mono B_7.size)
        clear con hb y6
        go_wp2
        go_ret
        exact ⟨rfl, B_8⟩
    · have d2 : (en != 0) = true := by simpa using he
      have con := Frm.Len_any _ _ _ i3
      have y6 := P7.box 6 _ rfl
      generalize (pV RP).prv.length = k at con
      clear he
      go_wp2_with fail
      refine con.mono ?_
      rintro e X8 ⟨rfl, hb⟩
      have B_8 := B_7.trans (hb.mono B_7.size)
      clear con hb y6
      by_cases hk : k = 0
      · subst hk
        go_wp2
        go_ret
        exact ⟨by first | rfl | simp, B_8⟩
      · have d3 : ((k : Int) == 0) = false := by simp; omega
        go_wp2
        go_ret
        exact ⟨by first | rfl | simp, B_8⟩

theorem proved : Rows.PolicyCoversCardSaid := card walk
end Go.Proofs.YtedglpfdibamdaaGreatDoor.policyCovers
