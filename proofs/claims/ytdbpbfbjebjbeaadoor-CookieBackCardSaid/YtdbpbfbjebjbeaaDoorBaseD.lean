/- The texts that these laws rest on, put together, part 4. Conditions: as each says. -/
import Derived.Test.YtdbpbfbjebjbeaaDoorBaseC

namespace Go.Proofs.YtdbpbfbjebjbeaaDoor.Ck
open Go.RowKit Go.Shelf Url Hdr
attribute [local go_sem] Oper.semAt_some
set_option linter.unusedVariables false

/-- What an attribute of a name and a text makes of a cookie. -/
def attrK (c : Ck) (k x : List UInt8) : Option Ck :=
  if k = pathS then some { c with path := if x.head? = some 47 then x else [] }
  else if k = domS then (if Host.parseE x = 0 then some { c with dom := Ref.lowL x } else none)
  else if k = ageS then (match Ref.numOf 1073741824 x with | some n => some { c with age := n } | none => none)
  else if k = secS then some { c with secure := true } else some c
theorem attr_is (c : Ck) (p : List UInt8) : attr c p = attrK c (keyL p) (txtL p) := rfl
theorem by_keep {S : Nat → Prop} {w w' : World} {q : Option Addr} {n c : Nat} {l : List UInt8} (h : By w (.slice q n c) l) (hk : Keep S w w') (hS : ∀ a, q = some a → 0 < n → S a.block) : By w' (.slice q n c) l := by
  obtain ⟨h1, h2, h3, h4, h5⟩ := h.at
  exact By.of h1 h2 h3 (fun hq => (h4 hq).2) (bytes_keep h5 hk hS)
/-- Bytes do not lie in a cookie's block. -/
theorem by_off {w : World} {b : Nat} {q1 q2 q3 : Option Addr} {n1 c1 n2 c2 n3 c3 : Nat} {s : ByteArray} {i : Int} {z : Bool} (hX : CB b #[.slice q1 n1 c1, .slice q2 n2 c2, .slice q3 n3 c3, .string s, .int .i64 i, .bool z] w)
    {q : Option Addr} {n c : Nat} {l : List UInt8} (h : By w (.slice q n c) l) : ∀ a, q = some a → 0 < n → a.block ≠ b := by
  intro a ha h0 e
  obtain ⟨b', o, he, hc⟩ := h.at.2.2.2.2.at h0
  rw [ha] at he
  cases he
  have e : b' = b := e
  subst e
  have h1 := hc 0 h0
  simp only [World.cell?, show w.heap[b']? = _ from hX] at h1
  rcases o with _ | _ | _ | _ | _ | _ | o
  all_goals simp at h1
theorem CB.set {b : Nat} {cs : Array Value} {X : World} (h : CB b cs X) (i : Nat) (v : Value) : CB b (cs.setIfInBounds i v) (X.setCell ⟨b, i, none⟩ v) := by
  obtain ⟨hlt, hk⟩ := Array.getElem?_eq_some_iff.1 h
  show (X.heap.modify b _)[b]? = _
  rw [Array.getElem?_eq_getElem (by rw [Array.size_modify]; exact hlt), Array.getElem_modify_self, hk]
  rfl
theorem head47 (l : List UInt8) : Lib.hasPrefix l [47] = decide (l.head? = some 47) := by
  show List.isPrefixOf [47] l = _
  cases l with
  | nil => rfl
  | cons x r =>
    show ((47 : UInt8) == x && true) = decide (some x = some 47)
    by_cases h : x = 47
    · subst h; rfl
    · rw [decide_eq_false (fun e => h (Option.some.inj e)), beq_eq_false_iff_ne.2 (fun e => h e.symm)]
      rfl
theorem list_eq (k m : List UInt8) : (k == m) = decide (k = m) := by
  rw [Bool.eq_iff_iff, beq_iff_eq, decide_eq_true_iff]

/-- What take leaves: a cookie in the box with one attribute more; or it can't be. -/
def TakeOut (b : Nat) (q1 : Option Addr) (n1 c1 : Nat) (q2 : Option Addr) (n2 c2 : Nat) (q3 : Option Addr) (n3 : Nat) (qt : Option Addr) (nt : Nat) (r : Option Ck) (w : World) (e : Ending) (w' : World) : Prop :=
  ∃ ok : Bool, e = .returned (.bool ok) ∧ Keep (fun k => k ≠ b) w w' ∧ ((ok = false ∧ r = none) ∨ (ok = true ∧ ∃ (q : Option Addr) (n cc : Nat) (d : Ck), r = some d ∧ CX b q1 n1 c1 q2 n2 c2 q n cc d w' ∧
    ∀ P : Nat → Prop, (∀ a, q3 = some a → 0 < n3 → P a.block) → (∀ a, qt = some a → 0 < nt → P a.block) → ∀ a, q = some a → 0 < n → P a.block))

set_option maxRecDepth 100000 in
set_option maxHeartbeats 8000000 in
theorem take_any (b : Nat) (q1 : Option Addr) (n1 c1 : Nat) (q2 : Option Addr) (n2 c2 : Nat) (q3 : Option Addr) (n3 c3 : Nat) (c : Ck) (qa : Option Addr) (na ca : Nat) (nm : List UInt8) (qt : Option Addr) (nt ct : Nat) (tx : List UInt8) (w : World)
    (hX : CX b q1 n1 c1 q2 n2 c2 q3 n3 c3 c w) (hN : By w (.slice qa na ca) nm) (hT : By w (.slice qt nt ct) tx) (hn : na ≤ 1048576) (hm : nt ≤ 1048576) :
    Calls Tryd.prog 28 #[.pointer (some ⟨b, 0, none⟩), .slice qa na ca, .slice qt nt ct] w fun e w' => TakeOut b q1 n1 c1 q2 n2 c2 q3 n3 qt nt (attrK c (Ref.lowL nm) tx) w e w' := by
  have con := Lower_any qa na ca nm w hN.at.1 (by omega) hN.at.2.2.2.2
  obtain ⟨R, hR⟩ : ∃ R, attrK c (Ref.lowL nm) tx = R := ⟨_, rfl⟩
  rw [hR]
  have HX := Lib.hid hX
  have HT := Lib.hid hT
  have HL := Lib.hid hT.at.1
  clear hX hN hT hn
  go_enter Tryd.func28, Tryd.ntmps28
  go_wp2_with fail
  refine con.mono ?_
  rintro e w1 ⟨v, rfl, hr, hb⟩
  obtain ⟨qk, ck, rfl, hk⟩ := byN_row hr
  have hcv := conv_by hk.1
  rw [show lowL nm = Ref.lowL nm from rfl] at hcv ⊢
  obtain ⟨K, hK⟩ : ∃ K, Ref.lowL nm = K := ⟨_, rfl⟩
  rw [hK] at hcv hR ⊢
  obtain ⟨kl, hkl⟩ : ∃ m, K.length = m := ⟨_, rfl⟩
  rw [hkl] at hcv ⊢
  have X1 := HX.out.on hb
  have T1 := HT.out.on hb
  have kw := (Keep.of_below hb).mono (T := fun k => k ≠ b ∧ k < w.heap.size) (fun k _ h => h.2)
  have KW := Lib.hid (fun (Z : World) (h : Keep (fun k => k ≠ b) w1 Z) => (show Keep (fun k => k ≠ b) w Z from ((Keep.of_below hb).mono (T := fun k => k ≠ b) (fun k h _ => h)).trans h))
  have e1 : (K == [112, 97, 116, 104]) = decide (K = pathS) := list_eq K pathS
  have e2 : (K == [100, 111, 109, 97, 105, 110]) = decide (K = domS) := list_eq K domS
  have e3 : (K == [109, 97, 120, 45, 97, 103, 101]) = decide (K = ageS) := list_eq K ageS
  have e4 : (K == [115, 101, 99, 117, 114, 101]) = decide (K = secS) := list_eq K secS
  have HR := Lib.hid hR
  clear con hr hk hb kw HX HT hK hkl hR
  by_cases hp : K = pathS
  · have HR2 := Lib.hid (show R = some { c with path := if tx.head? = some 47 then tx else [] } by rw [← HR.out]; unfold attrK; rw [if_pos hp])
    rw [decide_eq_true hp] at e1
    clear hp e2 e3 e4 HR
    have z2 := X1.1.box 2 _ rfl
    have f2 := X1.1.frozen 2
    obtain ⟨Y, hY⟩ : ∃ Y, w1.setCell ⟨b, 2, none⟩ (.slice none 0 0) = Y := ⟨_, rfl⟩
    have kY : Keep (fun k => k ≠ b) w1 Y := hY ▸ Keep.setCell _ _ _ (by simp)
    have cY : CB b #[.slice q1 n1 c1, .slice q2 n2 c2, .slice none 0 0, .string ⟨c.dom.toArray⟩, .int .i64 c.age, .bool c.secure] Y := by
      have h := X1.1.set 2 (.slice none 0 0)
      simp only [List.setIfInBounds_toArray, List.set_cons_zero, List.set_cons_succ] at h
      exact hY ▸ h
    have tY := by_keep T1 kY (by_off X1.1 T1)
    obtain ⟨_, _, _, _, _, _, _, _, _, hv, i1, i2, i3⟩ := id X1.2
    cases hv
    have j1 := by_keep i1 kY (by_off X1.1 i1)
    have j2 := by_keep i2 kY (by_off X1.1 i2)
    have hbl : Below Y.heap.size Y (Y.alloc (.cells #[.int .u8 47] 5)) := below_alloc _
    have tA := tY.on hbl
    have con := Tryd.bytes_HasPrefix_all qt (some ⟨Y.heap.size, 0, none⟩) nt ct 1 1 (Lib.numsL tx) (Lib.numsL [47]) (Y.alloc (.cells #[.int .u8 47] 5)) (by rw [Lib.numsL_length]; exact HL.out) rfl tA.at.2.1 tA.at.2.2.2.2 (by_lit Y #[.int .u8 47] [47] (0, 0) 1 rfl rfl (by decide)).at.2.2.2.2
    rw [bytesOf_numsL, bytesOf_numsL, head47] at con
    have kA : Keep (fun k => k ≠ b) w1 (Y.alloc (.cells #[.int .u8 47] 5)) := kY.trans (Keep.alloc _ _ _)
    have cA := cY.on hbl
    have HY := Lib.hid hY
    clear hY i1 i2 i3 X1 T1 kY cY
    go_upto_region 4 with fail
    rw [HY.out]
    clear z2 f2 HY
    by_cases hh : tx.head? = some 47
    · have HR3 := Lib.hid (show R = some { c with path := tx } by rw [HR2.out, if_pos hh])
      rw [decide_eq_true hh] at con
      have y2 := cA.box 2 _ rfl
      have g2 := cA.frozen 2
      obtain ⟨Z, hZ⟩ : ∃ Z, (Y.alloc (.cells #[.int .u8 47] 5)).setCell ⟨b, 2, none⟩ (.slice qt nt ct) = Z := ⟨_, rfl⟩
      have kZ : Keep (fun k => k ≠ b) (Y.alloc (.cells #[.int .u8 47] 5)) Z := hZ ▸ Keep.setCell _ _ _ (by simp)
      have cZ : CB b #[.slice q1 n1 c1, .slice q2 n2 c2, .slice qt nt ct, .string ⟨c.dom.toArray⟩, .int .i64 c.age, .bool c.secure] Z := by
        have h := cA.set 2 (.slice qt nt ct)
        simp only [List.setIfInBounds_toArray, List.set_cons_zero, List.set_cons_succ] at h
        exact hZ ▸ h
      have m1 := by_keep (j1.on hbl) kZ (by_off cA (j1.on hbl))
      have m2 := by_keep (j2.on hbl) kZ (by_off cA (j2.on hbl))
      have m3 := by_keep tA kZ (by_off cA tA)
      have HZ := Lib.hid hZ
      clear hZ hh cA tA tY j1 j2 hbl
      go_wp2_with fail
      refine con.mono ?_
      rintro e w3 ⟨rfl, rfl⟩
      go_wp2
      rw [HZ.out]
      go_ret
      exact ⟨true, rfl, KW.out _ (kA.trans kZ), .inr ⟨rfl, qt, nt, ct, _, HR3.out, ⟨cZ, _, _, _, _, _, _, _, _, _, rfl, m1, m2, m3⟩, fun P _ h => h⟩⟩
    · have HR3 := Lib.hid (show R = some { c with path := [] } by rw [HR2.out, if_neg hh])
      rw [decide_eq_false hh] at con
      have m1 := j1.on hbl
      have m2 := j2.on hbl
      clear hh tA tY j1 j2 hbl
      go_wp2_with fail
      refine con.mono ?_
      rintro e w3 ⟨rfl, rfl⟩
      go_wp2
      go_ret
      exact ⟨true, rfl, KW.out _ kA, .inr ⟨rfl, none, 0, 0, _, HR3.out, ⟨cA, _, _, _, _, _, _, _, _, _, rfl, m1, m2, by_nil _⟩, fun P _ _ a ha => by cases ha⟩⟩
  rw [decide_eq_false hp] at e1
  by_cases hd : K = domS
  · have HR2 := Lib.hid (show R = if Host.parseE tx = 0 then some { c with dom := Ref.lowL tx } else none by rw [← HR.out]; unfold attrK; rw [if_neg hp, if_pos hd])
    rw [decide_eq_true hd] at e2
    clear hp hd e3 e4 HR
    have con := Host.Parse_any qt nt ct tx w1 HL.out (by omega) T1.at.2.2.2.2
    go_wp2_with fail
    refine con.mono ?_
    rintro e w2 ⟨v2, rfl, hr2, hb2⟩
    obtain ⟨qc, cc, rfl, hc⟩ := byN_row hr2
    have hcv2 := conv_by hc.1
    have X2 := X1.on hb2
    have HP := Lib.hid (show (Host.parseE tx = 0 → Host.canL tx = Ref.lowL tx) from fun h => by unfold Host.canL; rw [if_pos h])
    obtain ⟨D, hD⟩ : ∃ D, Host.canL tx = D := ⟨_, rfl⟩
    rw [hD] at hcv2 HP ⊢
    obtain ⟨dl, hdl⟩ : ∃ m, D.length = m := ⟨_, rfl⟩
    rw [hdl] at hcv2 ⊢
    obtain ⟨pe, hpe⟩ : ∃ m, Host.parseE tx = m := ⟨_, rfl⟩
    rw [hpe] at HR2 HP ⊢
    have z3 := X2.1.box 3 _ rfl
    have f3 := X2.1.frozen 3
    obtain ⟨Z, hZ⟩ : ∃ Z, w2.setCell ⟨b, 3, none⟩ (.string ⟨D.toArray⟩) = Z := ⟨_, rfl⟩
    have kZ : Keep (fun k => k ≠ b) w1 Z := ((Keep.of_below hb2).mono (T := fun k => k ≠ b) (fun k h _ => h)).trans (hZ ▸ Keep.setCell _ _ _ (by simp))
    have kZ2 : Keep (fun k => k ≠ b) w2 Z := hZ ▸ Keep.setCell _ _ _ (by simp)
    have cZ : CB b #[.slice q1 n1 c1, .slice q2 n2 c2, .slice q3 n3 c3, .string ⟨D.toArray⟩, .int .i64 c.age, .bool c.secure] Z := by
      have h := X2.1.set 3 (.string ⟨D.toArray⟩)
      simp only [List.setIfInBounds_toArray, List.set_cons_zero, List.set_cons_succ] at h
      exact hZ ▸ h
    obtain ⟨_, _, _, _, _, _, _, _, _, hv, i1, i2, i3⟩ := id X2.2
    cases hv
    have m1 := by_keep i1 kZ2 (by_off X2.1 i1)
    have m2 := by_keep i2 kZ2 (by_off X2.1 i2)
    have m3 := by_keep i3 kZ2 (by_off X2.1 i3)
    have HZ := Lib.hid hZ
    clear con hr2 hc hb2 hD hdl hpe hZ X1 X2 T1 i1 i2 i3 kZ2
    by_cases h0 : pe = 0
    · have HD := Lib.hid (HP.out h0)
      have HR3 := Lib.hid (show R = some { c with dom := D } by rw [HR2.out, if_pos h0, HD.out])
      have e5 : (pe == 0) = true := by rw [beq_iff_eq]; exact h0
      clear h0 HR2 HP
      go_wp2
      rw [HZ.out]
      go_ret
      exact ⟨true, rfl, KW.out _ kZ, .inr ⟨rfl, q3, n3, c3, _, HR3.out, ⟨cZ, _, _, _, _, _, _, _, _, _, rfl, m1, m2, m3⟩, fun P h _ => h⟩⟩
    · have HR3 := Lib.hid (show R = none by rw [HR2.out, if_neg h0])
      have e5 : (pe == 0) = false := by rw [beq_eq_false_iff_ne]; exact h0
      clear h0 HR2 HP
      go_wp2
      rw [HZ.out]
      go_ret
      exact ⟨false, rfl, KW.out _ kZ, .inl ⟨rfl, HR3.out⟩⟩
  rw [decide_eq_false hd] at e2
  by_cases ha : K = ageS
  · have HR2 := Lib.hid (show R = (match Ref.numOf 1073741824 tx with | some n => some { c with age := n } | none => none) by rw [← HR.out]; unfold attrK; rw [if_neg hp, if_neg hd, if_pos ha])
    rw [decide_eq_true ha] at e3
    clear hp hd ha e4 HR
    have con := Number_any qt nt ct tx 1073741824 w1 HL.out (by omega) T1.at.2.2.2.2 (by decide) (by decide)
    rw [numOf_ref] at con
    unfold numV at con
    have z4 := X1.1.box 4 _ rfl
    have f4 := X1.1.frozen 4
    obtain ⟨_, _, _, _, _, _, _, _, _, hv, i1, i2, i3⟩ := id X1.2
    cases hv
    cases hno : Ref.numOf 1073741824 tx with
    | none =>
      rw [hno] at HR2 con
      have HR3 := Lib.hid (show R = none from HR2.out)
      clear hno HR2
      simp only [Option.getD_none, Option.isSome_none] at con
      obtain ⟨Z, hZ⟩ : ∃ Z, w1.setCell ⟨b, 4, none⟩ (.int .i64 0) = Z := ⟨_, rfl⟩
      have kZ : Keep (fun k => k ≠ b) w1 Z := hZ ▸ Keep.setCell _ _ _ (by simp)
      have HZ := Lib.hid hZ
      clear hZ X1 T1 i1 i2 i3
      go_wp2_with fail
      refine con.mono ?_
      rintro e w3 ⟨rfl, rfl⟩
      go_wp2
      rw [HZ.out]
      go_ret
      exact ⟨false, rfl, KW.out _ kZ, .inl ⟨rfl, HR3.out⟩⟩
    | some m =>
      rw [hno] at HR2 con
      have HR3 := Lib.hid (show R = some { c with age := m } from HR2.out)
      clear hno HR2
      simp only [Option.getD_some, Option.isSome_some] at con
      obtain ⟨Z, hZ⟩ : ∃ Z, w1.setCell ⟨b, 4, none⟩ (.int .i64 m) = Z := ⟨_, rfl⟩
      have kZ : Keep (fun k => k ≠ b) w1 Z := hZ ▸ Keep.setCell _ _ _ (by simp)
      have cZ : CB b #[.slice q1 n1 c1, .slice q2 n2 c2, .slice q3 n3 c3, .string ⟨c.dom.toArray⟩, .int .i64 m, .bool c.secure] Z := by
        have h := X1.1.set 4 (.int .i64 m)
        simp only [List.setIfInBounds_toArray, List.set_cons_zero, List.set_cons_succ] at h
        exact hZ ▸ h
      have m1 := by_keep i1 kZ (by_off X1.1 i1)
      have m2 := by_keep i2 kZ (by_off X1.1 i2)
      have m3 := by_keep i3 kZ (by_off X1.1 i3)
      have HZ := Lib.hid hZ
      clear hZ X1 T1 i1 i2 i3
      go_wp2_with fail
      refine con.mono ?_
      rintro e w3 ⟨rfl, rfl⟩
      go_wp2
      rw [HZ.out]
      go_ret
      exact ⟨true, rfl, KW.out _ kZ, .inr ⟨rfl, q3, n3, c3, _, HR3.out, ⟨cZ, _, _, _, _, _, _, _, _, _, rfl, m1, m2, m3⟩, fun P h _ => h⟩⟩
  rw [decide_eq_false ha] at e3
  by_cases hs : K = secS
  · have HR2 := Lib.hid (show R = some { c with secure := true } by rw [← HR.out]; unfold attrK; rw [if_neg hp, if_neg hd, if_neg ha, if_pos hs])
    rw [decide_eq_true hs] at e4
    clear hp hd ha hs HR
    have z5 := X1.1.box 5 _ rfl
    have f5 := X1.1.frozen 5
    obtain ⟨_, _, _, _, _, _, _, _, _, hv, i1, i2, i3⟩ := id X1.2
    cases hv
    obtain ⟨Z, hZ⟩ : ∃ Z, w1.setCell ⟨b, 5, none⟩ (.bool true) = Z := ⟨_, rfl⟩
    have kZ : Keep (fun k => k ≠ b) w1 Z := hZ ▸ Keep.setCell _ _ _ (by simp)
    have cZ : CB b #[.slice q1 n1 c1, .slice q2 n2 c2, .slice q3 n3 c3, .string ⟨c.dom.toArray⟩, .int .i64 c.age, .bool true] Z := by
      have h := X1.1.set 5 (.bool true)
      simp only [List.setIfInBounds_toArray, List.set_cons_zero, List.set_cons_succ] at h
      exact hZ ▸ h
    have m1 := by_keep i1 kZ (by_off X1.1 i1)
    have m2 := by_keep i2 kZ (by_off X1.1 i2)
    have m3 := by_keep i3 kZ (by_off X1.1 i3)
    have HZ := Lib.hid hZ
    clear hZ X1 T1 i1 i2 i3
    go_wp2
    rw [HZ.out]
    go_ret
    exact ⟨true, rfl, KW.out _ kZ, .inr ⟨rfl, q3, n3, c3, _, HR2.out, ⟨cZ, _, _, _, _, _, _, _, _, _, rfl, m1, m2, m3⟩, fun P h _ => h⟩⟩
  · have HR2 := Lib.hid (show R = some c by rw [← HR.out]; unfold attrK; rw [if_neg hp, if_neg hd, if_neg ha, if_neg hs])
    rw [decide_eq_false hs] at e4
    clear hp hd ha hs HR T1
    have kZ : Keep (fun k => k ≠ b) w1 w1 := Keep.refl _ _
    go_wp2
    go_ret
    exact ⟨true, rfl, KW.out _ kZ, .inr ⟨rfl, q3, n3, c3, _, HR2.out, X1, fun P h _ => h⟩⟩
end Go.Proofs.YtdbpbfbjebjbeaaDoor.Ck

namespace Go.Proofs.YtdbpbfbjebjbeaaDoor.Ck
open Go.RowKit Go.Shelf Url Hdr
attribute [local go_sem] Oper.semAt_some
set_option linter.unusedVariables false

/-- The last place of a byte, or -1. -/
def LastOf (l : List UInt8) (b : UInt8) (r : Int) : Prop := (r = -1 ∧ ∀ j, j < l.length → l.getD j 0 ≠ b) ∨ ∃ k : Nat, r = (k : Int) ∧ k < l.length ∧ l.getD k 0 = b ∧ ∀ j, k < j → j < l.length → l.getD j 0 ≠ b
set_option maxRecDepth 100000 in
set_option maxHeartbeats 4000000 in
theorem lastB_any (q : Option Addr) (n c : Nat) (l : List UInt8) (b : UInt8) (w : World) (h : By w (.slice q n c) l) :
    Calls Tryd.prog 42 #[.slice q n c, .int .u8 (b.toNat : Int)] w fun e w' => (∃ r : Int, e = .returned (.int .i64 r) ∧ LastOf l b r) ∧ w = w' := by
  obtain ⟨hl, hnc, hcm, hq, hb⟩ := h.at
  unfold maxLen at hcm
  have hn : (n : Int) - 1 ≤ 9223372036854775807 := by omega
  have HL := Lib.hid hl
  clear h hq hl
  go_enter Tryd.func42, Tryd.ntmps42
  go_wp2
  go_loop [5] (fun i => ∃ (k : Nat) (t : Int), k ≤ n ∧ t = (k : Int) - 1 ∧ i = .int .i64 t ∧ Hid (∀ j, k ≤ j → j < n → l.getD j 0 ≠ b)) (fun i => (intOf i + 1).toNat)
  case atStart => exact ⟨n, (n : Int) - 1, Nat.le_refl _, rfl, by go_num, Lib.hid (fun j h1 h2 => by omega)⟩
  case round =>
    obtain ⟨k, t, hk, ht, rfl, HR⟩ := hrel
    by_cases h0 : 0 < k
    · obtain ⟨m, rfl⟩ : ∃ m, k = m + 1 := ⟨k - 1, by omega⟩
      obtain rfl : t = (m : Int) := by omega
      obtain ⟨b', o, rfl, hc⟩ := hb.at (by omega)
      have hck : w.cell? ⟨b', o + m, none⟩ = some (.int .u8 ((l.getD m 0).toNat : Int)) := by
        rw [← numsL_getD l m (by have := HL.out; omega)]
        exact hc m (by omega)
      have hmn : m < n := by omega
      clear ht h0 hc
      by_cases he : l.getD m 0 = b
      · have H := Lib.hid (show LastOf l b (m : Int) from .inr ⟨m, rfl, by have := HL.out; omega, he, fun j h1 h2 => HR.out j (by omega) (by have := HL.out; omega)⟩)
        rw [he] at hck
        clear HR he hb
        go_wp2
        go_ret
        exact ⟨⟨_, rfl, H.out⟩, rfl⟩
      · have H := Lib.hid (show ∀ j, m ≤ j → j < n → l.getD j 0 ≠ b from fun j h1 h2 => by
          by_cases hj : j = m
          · subst hj; exact he
          · exact HR.out j (by omega) h2)
        have hne : (((l.getD m 0).toNat : Int) == (b.toNat : Int)) = false := by
          rw [beq_eq_false_iff_ne]
          intro h
          exact he (UInt8.toNat_inj.1 (by omega))
        clear HR he
        generalize l.getD m 0 = x at hck hne
        go_wp2
        go_round
        case rel => exact ⟨m, (m : Int) - 1, by omega, rfl, by go_num, H⟩
        case measure => simp [intOf]
    · obtain rfl : k = 0 := by omega
      have d0 : decide ((0 : Int) ≤ t) = false := by simp; omega
      have H := Lib.hid (show LastOf l b (-1) from .inl ⟨rfl, fun j h => HR.out j (by omega) (by have := HL.out; omega)⟩)
      clear HR hb ht
      go_wp2
      go_ret
      exact ⟨⟨_, rfl, H.out⟩, rfl⟩
theorem last_any (q : Option Addr) (n c : Nat) (l : List UInt8) (b : UInt8) (w : World) (h : By w (.slice q n c) l) :
    Calls Tryd.prog 22 #[.slice q n c, .int .u8 (b.toNat : Int)] w fun e w' => (∃ r : Int, e = .returned (.int .i64 r) ∧ LastOf l b r) ∧ w = w' := by
  have con := lastB_any q n c l b w h
  go_enter Tryd.func22, Tryd.ntmps22
  go_wp2_with fail
  refine con.mono ?_
  rintro e w' ⟨⟨r, rfl, hr⟩, rfl⟩
  go_wp2
  go_ret
  exact ⟨⟨r, rfl, hr⟩, rfl⟩

set_option maxRecDepth 100000 in
set_option maxHeartbeats 4000000 in
theorem Home_by (v a : Value) (c : Ck) (u : U) (w : World) (h : CkIs w v c) (ha : UrlIn w a u) (hs : c.path.length ≤ 1099511627775) (hl : u.path.length ≤ 1099511627775) :
    Calls Tryd.prog 11 #[v, a] w (BysOut (homeL c u.path) w) := by
  obtain ⟨q1, n1, c1, q2, n2, c2, q3, n3, c3, rfl, h1, h2, h3⟩ := h
  obtain ⟨p0, pm0, pd0, p1, pm1, pd1, p3, pm3, pd3, p4, pm4, pd4, p5, pm5, pd5, rfl, g0, g1, g3, g4, g5⟩ := ha
  obtain ⟨W, hW, bC, bU, A1⟩ := two_box w #[.slice q1 n1 c1, .slice q2 n2 c2, .slice q3 n3 c3, .string ⟨c.dom.toArray⟩, .int .i64 c.age, .bool c.secure] #[.slice p0 pm0 pd0, .slice p1 pm1 pd1, .int .i64 u.port, .slice p3 pm3 pd3, .slice p4 pm4 pd4, .slice p5 pm5 pd5, .bool u.hq, .bool u.hf]
  have x2 := bC.box 2 _ rfl
  have y3 := bU.box 3 _ rfl
  have k3 := h3.on A1
  have j3 := g3.on A1
  have l3 := k3.at.1
  have HW := Lib.hid hW
  clear bC bU hW h1 h2 h3 g0 g1 g3 g4 g5
  by_cases hp : c.path = []
  · have hz : n3 = 0 := by rw [← l3, hp]; rfl
    subst hz
    have con := last_any p3 pm3 pd3 u.path 47 W j3
    have HL := Lib.hid hl
    have HJ := Lib.hid j3.at.1
    have HH1 := Lib.hid (fun k h1 h2 h3 => home_at c u.path k hp h1 h2 h3)
    have HH2 := Lib.hid (fun h => home_none c u.path hp h)
    clear k3 l3 hp hs hl
    go_enter Tryd.func11, Tryd.ntmps11
    go_wp2_with fail
    rw [HW.out]
    go_wp2_with fail
    refine con.mono ?_
    rintro e w' ⟨⟨r, rfl, hr⟩, rfl⟩
    rcases hr with ⟨rfl, hr⟩ | ⟨k, rfl, hk, h1, h2⟩
    · have HE := Lib.hid (HH2.out hr)
      clear con hr
      go_wp2
      go_ret
      rw [HE.out]
      exact ⟨none, 0, 0, rfl, by_nil _, A1⟩
    · have HE := Lib.hid (HH1.out k hk h1 h2)
      have hkn : k < pm3 := by have := HJ.out; omega
      have d1 : decide ((k : Int) < 0) = false := by simp
      clear con h1 h2 HH1 HH2
      by_cases hk0 : k = 0
      · subst hk0
        have hsl : (Instr.slice 22 (.slice p3 pm3 pd3) none (some (.int .i64 1)) none).run Tryd.prog W = .ok (.slice (subA p3 pd3 0) 1 pd3) W := run_slice_to p3 pm3 pd3 1 W (by have := j3.at.2.1; omega)
        rw [subA_zero] at hsl
        have hmx : max (0 : Int) 1 = 1 := by decide
        have jt := j3.take (k := 1) (by omega)
        have con := Clone_any p3 1 pd3 (u.path.take 1) W jt.at.1 (by omega) jt.at.2.2.2.2
        clear jt hk
        go_wp2_with fail
        refine con.mono ?_
        rintro e w' ⟨v, rfl, hr, hb⟩
        go_wp2
        go_ret
        rw [HE.out]
        have hy := By.row hr
        obtain ⟨q, cc, rfl⟩ := by_form hy
        exact ⟨q, _, cc, rfl, hy, A1.trans (hb.mono A1.size)⟩
      · have hsl := run_slice_to p3 pm3 pd3 k W (by have := j3.at.2.1; omega)
        rw [subA_zero] at hsl
        have jt := j3.take (k := k) (by omega)
        have con := Clone_any p3 k pd3 (u.path.take k) W jt.at.1 (by have := HL.out; have := HJ.out; omega) jt.at.2.2.2.2
        have hmx : max (k : Int) 1 = (k : Int) := by omega
        have hmn : max k 1 = k := by omega
        rw [hmn] at HE
        clear jt hk hmn
        go_wp2_with fail
        refine con.mono ?_
        rintro e w' ⟨v, rfl, hr, hb⟩
        go_wp2
        go_ret
        rw [HE.out]
        have hy := By.row hr
        obtain ⟨q, cc, rfl⟩ := by_form hy
        exact ⟨q, _, cc, rfl, hy, A1.trans (hb.mono A1.size)⟩
  · have hl3 : 0 < n3 := by rw [← l3]; exact List.length_pos_iff.2 hp
    have hn3 : ¬ n3 = 0 := by omega
    have d1 : decide ((0 : Int) < (n3 : Int)) = true := by simp; omega
    have con := Clone_any q3 n3 c3 c.path W l3 (by omega) k3.at.2.2.2.2
    have HE := Lib.hid (home_own c u.path hp)
    clear k3 l3 hp hs hl j3
    go_enter Tryd.func11, Tryd.ntmps11
    go_wp2_with fail
    rw [HW.out]
    go_wp2_with fail
    refine con.mono ?_
    rintro e w' ⟨v, rfl, hr, hb⟩
    go_wp2
    go_ret
    rw [HE.out]
    have hy := By.row hr
    obtain ⟨q, cc, rfl⟩ := by_form hy
    exact ⟨q, _, cc, rfl, hy, A1.trans (hb.mono A1.size)⟩

/-! ### goesOn -/
theorem by_dropC {w : World} {q : Option Addr} {n c k : Nat} {l : List UInt8} (h : By w (.slice q n c) l) (hk : k ≤ n) : By w (.slice (subA q c k) (n - k) (c - k)) (l.drop k) := by
  obtain ⟨h1, _⟩ := h.at
  have := h.sub hk (Nat.le_refl n)
  rw [← h1, sub_from, h1] at this
  exact this
theorem trim_yes {q : Option Addr} {n c : Nat} {t p : List UInt8} {w : World} (hby : By w (.slice q n c) t) (h : p.isPrefixOf t = true) :
    p.length ≤ n ∧ Lib.trimPrefixV q n c (Lib.numsL t) (Lib.numsL p) = .slice (subA q c p.length) (n - p.length) (c - p.length) := by
  obtain ⟨h1, h2, h3, h4, h5⟩ := hby.at
  have h7 : p.length ≤ n := by
    have := (List.isPrefixOf_iff_prefix.1 h).length_le
    rw [h1] at this; exact this
  refine ⟨h7, ?_⟩
  have hx : Lib.hasPrefix (Lib.bytesOf (Lib.numsL t)) (Lib.bytesOf (Lib.numsL p)) = true := by rw [bytesOf_numsL, bytesOf_numsL]; exact h
  cases p with
  | nil =>
    rw [List.length_nil, subA_zero]
    unfold Lib.trimPrefixV
    split
    · rename_i heq
      cases heq
    · rfl
  | cons y p =>
    obtain ⟨b, o, rfl, _⟩ := h5.at (by simp at h7; omega)
    show Lib.bytesTrimPrefix b o n c (Lib.numsL t) (Lib.numsL (y :: p)) = _
    unfold Lib.bytesTrimPrefix Lib.sliceFrom subA
    rw [hx, if_pos rfl, Lib.numsL_length]
    split
    · rfl
    · show _ = Value.slice (some ((⟨b, o, none⟩ : Addr).add (y :: p).length)) _ _
      rw [Go.WideShapes.add_plain]
theorem trim_no {q : Option Addr} {n c : Nat} {t p : List UInt8} {w : World} (hby : By w (.slice q n c) t) (h : p.isPrefixOf t = false) :
    Lib.trimPrefixV q n c (Lib.numsL t) (Lib.numsL p) = .slice q n c := by
  have hx : Lib.hasPrefix (Lib.bytesOf (Lib.numsL t)) (Lib.bytesOf (Lib.numsL p)) = false := by rw [bytesOf_numsL, bytesOf_numsL]; exact h
  unfold Lib.trimPrefixV
  split
  · unfold Lib.bytesTrimPrefix
    rw [hx, if_neg (by simp)]
  · rfl
theorem cutPre_any (q qp : Option Addr) (n c m d : Nat) (t p : List UInt8) (w : World) (ht : By w (.slice q n c) t) (hp : By w (.slice qp m d) p) :
    Calls Tryd.prog 40 #[.slice q n c, .slice qp m d] w fun e w' => (∃ qr nr cr, e = .returned (.tuple #[.slice qr nr cr, .bool (p.isPrefixOf t)]) ∧ By w (.slice qr nr cr) (if p.isPrefixOf t = true then t.drop p.length else t)) ∧ w = w' := by
  obtain ⟨h1, h2, h3, h4, h5⟩ := ht.at
  obtain ⟨g1, g2, g3, g4, g5⟩ := hp.at
  refine (Tryd.bytes_CutPrefix_all q qp n c m d (Lib.numsL t) (Lib.numsL p) w (by rw [Lib.numsL_length, h1]) (by rw [Lib.numsL_length, g1]) h2 h5 g5).mono ?_
  rintro e w' ⟨rfl, rfl⟩
  have hx : Lib.hasPrefix (Lib.bytesOf (Lib.numsL t)) (Lib.bytesOf (Lib.numsL p)) = p.isPrefixOf t := by rw [bytesOf_numsL, bytesOf_numsL]; rfl
  rw [hx]
  cases hc : p.isPrefixOf t with
  | true =>
    obtain ⟨e1, e2⟩ := trim_yes ht hc
    exact ⟨⟨_, _, _, by rw [e2], by rw [if_pos rfl]; exact by_dropC ht e1⟩, rfl⟩
  | false => exact ⟨⟨_, _, _, by rw [trim_no ht hc], by rw [if_neg (by simp)]; exact ht⟩, rfl⟩
theorem suffix47 (l : List UInt8) : Lib.hasSuffix l [47] = decide (l.getLast? = some 47) := by
  rw [Bool.eq_iff_iff, decide_eq_true_iff]
  show List.isSuffixOf [47] l = true ↔ _
  rw [List.isSuffixOf_iff_suffix]
  refine ⟨fun ⟨t, ht⟩ => by rw [← ht]; simp, fun h => ?_⟩
  obtain ⟨ys, rfl⟩ := List.getLast?_eq_some_iff.1 h
  exact ⟨ys, rfl⟩

set_option maxRecDepth 100000 in
set_option maxHeartbeats 4000000 in
theorem goesOn_any (q qp : Option Addr) (n c m d : Nat) (t p : List UInt8) (w : World) (ht : By w (.slice q n c) t) (hp : By w (.slice qp m d) p) :
    Calls Tryd.prog 21 #[.slice q n c, .slice qp m d] w fun e w' => e = .returned (.bool (hereB p t)) ∧ Below w.heap.size w w' := by
  have con := cutPre_any q qp n c m d t p w ht hp
  have HG := Lib.hid (show hereB p t = (p.isPrefixOf t && (decide ((t.drop p.length).length = 0) || decide ((t.drop p.length).head? = some 47) || decide (p.getLast? = some 47))) from (goes_here p t).symm)
  generalize hereB p t = gb at *
  obtain ⟨g1, g2, g3, g4, g5⟩ := hp.at
  have hm : m ≤ 9223372036854775807 := by unfold maxLen at g3; omega
  have HP := Lib.hid hp
  cases hpre : p.isPrefixOf t with
  | false =>
    rw [hpre] at con HG
    have HE := Lib.hid (show gb = false by rw [HG.out]; rfl)
    clear hpre HG ht hp g1 g2 g3 g4 g5
    go_enter Tryd.func21, Tryd.ntmps21
    go_wp2_with fail
    refine con.mono ?_
    rintro e w' ⟨⟨qr, nr, cr, rfl, hr⟩, rfl⟩
    clear hr con
    go_wp2
    go_ret
    exact ⟨(by rw [HE.out]; try rfl), Below.refl _ _⟩
  | true =>
    rw [hpre] at con HG
    simp only [if_true] at con
    generalize t.drop p.length = r at *
    clear hpre ht hp
    go_enter Tryd.func21, Tryd.ntmps21
    go_wp2_with fail
    refine con.mono ?_
    rintro e w' ⟨⟨qr, nr, cr, rfl, hr⟩, rfl⟩
    have hrl := hr.at.1
    clear con
    by_cases h0 : nr = 0
    · have HE := Lib.hid (show gb = true by rw [HG.out, decide_eq_true (show r.length = 0 by omega)]; rfl)
      subst h0
      clear HG hr hrl g1 g2 g3 g4 g5
      go_wp2
      go_ret
      exact ⟨(by rw [HE.out]; try rfl), Below.refl _ _⟩
    · obtain ⟨b, o, rfl, hc⟩ := hr.at.2.2.2.2.at (by omega)
      have hc0 := hc 0 (by omega)
      rw [numsL_getD r 0 (by omega), Nat.add_zero] at hc0
      have hpos : 0 < nr := by omega
      have e0 : ((nr : Int) == 0) = false := by rw [beq_eq_false_iff_ne]; omega
      have hhd : r.head? = some (r.getD 0 0) := by
        cases r with
        | nil => simp at hrl; omega
        | cons x s => rfl
      have HL0 := Lib.hid (show decide (r.length = 0) = false from decide_eq_false (by omega))
      by_cases h47 : r.getD 0 0 = 47
      · rw [h47] at hc0
        have HE := Lib.hid (show gb = true by rw [HG.out, HL0.out, hhd, h47]; rfl)
        clear HG hr hrl g1 g2 g3 g4 g5 hc hhd h47 HL0
        go_wp2
        go_ret
        exact ⟨(by rw [HE.out]; try rfl), Below.refl _ _⟩
      · have HE := Lib.hid (show gb = decide (p.getLast? = some 47) by
          rw [HG.out, HL0.out, hhd, decide_eq_false (show ¬ some (r.getD 0 0) = some 47 from fun h => h47 (Option.some.inj h))]
          simp)
        have e47 : (((r.getD 0 0).toNat : Int) == 47) = false := by
          rw [beq_eq_false_iff_ne]
          intro h
          exact h47 (UInt8.toNat_inj.1 (show (r.getD 0 0).toNat = 47 by omega))
        have hbl : Below w.heap.size w (w.alloc (.cells #[.int .u8 47] 5)) := below_alloc _
        have con := Tryd.bytes_HasSuffix_all qp (some ⟨w.heap.size, 0, none⟩) m d 1 1 (Lib.numsL p) (Lib.numsL [47]) (w.alloc (.cells #[.int .u8 47] 5)) (by rw [Lib.numsL_length]; exact g1) rfl g2 hm (HP.out.on hbl).at.2.2.2.2 (by_lit w #[.int .u8 47] [47] (0, 0) 1 rfl rfl (by decide)).at.2.2.2.2
        rw [bytesOf_numsL, bytesOf_numsL, suffix47] at con
        generalize r.getD 0 0 = x at *
        generalize decide (p.getLast? = some 47) = sx at *
        clear HG hr hrl g1 g2 g3 g4 g5 hc hhd h47 HL0
        go_wp2_with fail
        refine con.mono ?_
        rintro e w' ⟨rfl, rfl⟩
        go_wp2
        go_ret
        exact ⟨(by rw [HE.out]; try rfl), hbl⟩

/-! ### May -/
theorem may_is (c : Ck) (host scheme : List UInt8) : mayB c host scheme = ((decide (c.dom = []) || Host.withinB host c.dom) && safeB c scheme) := rfl
set_option maxRecDepth 100000 in
set_option maxHeartbeats 8000000 in
theorem May_by (v a : Value) (c : Ck) (u : U) (w : World) (h : CkIs w v c) (hs : c.dom.length ≤ 1099511627775) (ha : UrlIn w a u) (hl : u.host.length ≤ 1099511627775) :
    Calls Tryd.prog 9 #[v, a] w fun e w' => e = .returned (.int .i64 (if mayB c u.host u.scheme = true then 0 else 17)) ∧ Below w.heap.size w w' := by
  obtain ⟨q1, n1, c1, q2, n2, c2, q3, n3, c3, rfl, h1, h2, h3⟩ := h
  obtain ⟨p0, pm0, pd0, p1, pm1, pd1, p3, pm3, pd3, p4, pm4, pd4, p5, pm5, pd5, rfl, g0, g1, g3, g4, g5⟩ := ha
  obtain ⟨W, hW, bC, bU, A1⟩ := two_box w #[.slice q1 n1 c1, .slice q2 n2 c2, .slice q3 n3 c3, .string ⟨c.dom.toArray⟩, .int .i64 c.age, .bool c.secure] #[.slice p0 pm0 pd0, .slice p1 pm1 pd1, .int .i64 u.port, .slice p3 pm3 pd3, .slice p4 pm4 pd4, .slice p5 pm5 pd5, .bool u.hq, .bool u.hf]
  have hC : CkIs W (.agg #[.slice q1 n1 c1, .slice q2 n2 c2, .slice q3 n3 c3, .string ⟨c.dom.toArray⟩, .int .i64 c.age, .bool c.secure]) c := ⟨_, _, _, _, _, _, _, _, _, rfl, h1.on A1, h2.on A1, h3.on A1⟩
  have hU : UrlIn W (.agg #[.slice p0 pm0 pd0, .slice p1 pm1 pd1, .int .i64 u.port, .slice p3 pm3 pd3, .slice p4 pm4 pd4, .slice p5 pm5 pd5, .bool u.hq, .bool u.hf]) u := ⟨_, _, _, _, _, _, _, _, _, _, _, _, _, _, _, rfl, g0.on A1, g1.on A1, g3.on A1, g4.on A1, g5.on A1⟩
  have conC := covers_any _ _ c u W hC hs hU hl
  have HS := Lib.hid (fun W2 (hb : Below W.heap.size W W2) => safe_any _ _ c u W2 (hC.on hb) (hU.on hb))
  have BC := Lib.hid bC
  have BU := Lib.hid bU
  have x0 := bC.box 0 _ rfl
  have x1 := bC.box 1 _ rfl
  have x2 := bC.box 2 _ rfl
  have x3 := bC.box 3 _ rfl
  have x4 := bC.box 4 _ rfl
  have x5 := bC.box 5 _ rfl
  have y0 := bU.box 0 _ rfl
  have y1 := bU.box 1 _ rfl
  have y2 := bU.box 2 _ rfl
  have y3 := bU.box 3 _ rfl
  have y4 := bU.box 4 _ rfl
  have y5 := bU.box 5 _ rfl
  have y6 := bU.box 6 _ rfl
  have y7 := bU.box 7 _ rfl
  have HW := Lib.hid hW
  have HM := Lib.hid (may_is c u.host u.scheme)
  generalize mayB c u.host u.scheme = mb at *
  generalize safeB c u.scheme = sb at *
  generalize Host.withinB u.host c.dom = wb at *
  clear h1 h2 h3 g0 g1 g3 g4 g5 hC hU bC bU hW hs hl
  obtain ⟨dm, hdm⟩ : ∃ d, c.dom = d := ⟨_, rfl⟩
  rw [hdm] at HW HM x3 conC HS BC ⊢
  clear hdm
  obtain ⟨rv, hrv⟩ : ∃ r : Int, (if mb = true then 0 else 17) = r := ⟨_, rfl⟩
  rw [hrv]
  by_cases hd : dm = []
  · rw [decide_eq_true hd] at HM
    subst hd
    have HM2 := Lib.hid (show rv = if sb = true then 0 else 17 by rw [← hrv, HM.out]; simp)
    have con := HS.out W (Below.refl _ _)
    clear conC HS HM hrv
    go_enter Tryd.func9, Tryd.ntmps9
    go_wp2_with fail
    rw [HW.out]
    go_wp2_with fail
    refine con.mono ?_
    rintro e W2 ⟨rfl, hb⟩
    cases sb with
    | true =>
      go_wp2
      go_ret
      rw [HM2.out]
      exact ⟨rfl, A1.trans (hb.mono A1.size)⟩
    | false =>
      go_wp2
      go_ret
      rw [HM2.out]
      exact ⟨rfl, A1.trans (hb.mono A1.size)⟩
  · rw [decide_eq_false hd] at HM
    have e1 : (dm == []) = false := by rw [beq_eq_false_iff_ne]; exact hd
    have e2 : (dm != []) = true := by simp [hd]
    have e3 : dm.isEmpty = false := by cases dm with
      | nil => exact absurd rfl hd
      | cons _ _ => rfl
    cases wb with
    | false =>
      have HM2 := Lib.hid (show rv = 17 by rw [← hrv, HM.out]; rfl)
      clear HS HM hrv
      go_enter Tryd.func9, Tryd.ntmps9
      go_wp2_with fail
      rw [HW.out]
      go_wp2_with fail
      refine conC.mono ?_
      rintro e W2 ⟨rfl, hb⟩
      go_wp2
      go_ret
      rw [HM2.out]
      exact ⟨rfl, A1.trans (hb.mono A1.size)⟩
    | true =>
      have HM2 := Lib.hid (show rv = if sb = true then 0 else 17 by rw [← hrv, HM.out]; simp)
      clear HM hrv
      go_enter Tryd.func9, Tryd.ntmps9
      go_wp2_with fail
      rw [HW.out]
      go_wp2_with fail
      refine conC.mono ?_
      rintro e W2 ⟨rfl, hb⟩
      have con := HS.out W2 hb
      have bC2 := BC.out.on hb
      have bU2 := BU.out.on hb
      have A2 := A1.trans (hb.mono A1.size)
      have xx0 := bC2.box 0 _ rfl
      have xx1 := bC2.box 1 _ rfl
      have xx2 := bC2.box 2 _ rfl
      have xx3 := bC2.box 3 _ rfl
      have xx4 := bC2.box 4 _ rfl
      have xx5 := bC2.box 5 _ rfl
      have yy0 := bU2.box 0 _ rfl
      have yy1 := bU2.box 1 _ rfl
      have yy2 := bU2.box 2 _ rfl
      have yy3 := bU2.box 3 _ rfl
      have yy4 := bU2.box 4 _ rfl
      have yy5 := bU2.box 5 _ rfl
      have yy6 := bU2.box 6 _ rfl
      have yy7 := bU2.box 7 _ rfl
      clear conC HS hb bC2 bU2 x0 x1 x2 x3 x4 x5 y0 y1 y2 y3 y4 y5 y6 y7
      go_wp2_with fail
      refine con.mono ?_
      rintro e W3 ⟨rfl, hb⟩
      cases sb with
      | true =>
        go_wp2
        go_ret
        rw [HM2.out]
        exact ⟨rfl, A2.trans (hb.mono A2.size)⟩
      | false =>
        go_wp2
        go_ret
        rw [HM2.out]
        exact ⟨rfl, A2.trans (hb.mono A2.size)⟩

/-! ### Meant -/
theorem list_eqD (k m : List UInt8) : (k == m) = decide (k = m) := by
  rw [Bool.eq_iff_iff, beq_iff_eq, decide_eq_true_iff]
theorem three_box (w : World) (cs us vs : Array Value) : ∃ W, ((w.alloc (.cells cs 25)).alloc (.cells us 31)).alloc (.cells vs 31) = W ∧ CB w.heap.size cs W ∧ UB (w.heap.size + 1) us W ∧ UB (w.heap.size + 2) vs W ∧ Below w.heap.size w W := by
  refine ⟨_, rfl, ((CB.new w cs).on (below_alloc _)).on (below_alloc _), ?_, ?_, (((Below.refl _ w).alloc (Nat.le_refl _) _).alloc (by simp) _).alloc (by simp; omega) _⟩
  · have := (UB.new (w.alloc (.cells cs 25)) us).on (below_alloc (.cells vs 31))
    rw [World.size_alloc] at this
    exact this
  · have := UB.new ((w.alloc (.cells cs 25)).alloc (.cells us 31)) vs
    rw [World.size_alloc, World.size_alloc] at this
    exact this
theorem meant_is (c : Ck) (h1 p1 h2 p2 s2 : List UInt8) : meantB c h1 p1 h2 p2 s2 = ((decide (h2 = h1) || Host.withinB h2 c.dom) && (hereB (homeL c p1) p2 && safeB c s2)) := by
  unfold meantB safeB
  generalize hereB (homeL c p1) p2 = x
  generalize (!c.secure || decide (s2 = httpsS)) = y
  generalize (decide (h2 = h1) || Host.withinB h2 c.dom) = z
  cases x <;> cases y <;> cases z <;> rfl
set_option maxRecDepth 100000 in
set_option maxHeartbeats 16000000 in
theorem Meant_by (v a b : Value) (c : Ck) (u x : U) (w : World) (h : CkIs w v c) (hs : c.dom.length ≤ 1099511627775 ∧ c.path.length ≤ 1099511627775) (ha : UrlIn w a u) (hl : u.path.length ≤ 1099511627775) (hb : UrlIn w b x) (hx : x.host.length ≤ 1099511627775) :
    Calls Tryd.prog 10 #[v, a, b] w fun e w' => e = .returned (.bool (meantB c u.host u.path x.host x.path x.scheme)) ∧ Below w.heap.size w w' := by
  obtain ⟨q1, n1, c1, q2, n2, c2, q3, n3, c3, rfl, h1, h2, h3⟩ := h
  obtain ⟨p0, pm0, pd0, p1, pm1, pd1, p3, pm3, pd3, p4, pm4, pd4, p5, pm5, pd5, rfl, g0, g1, g3, g4, g5⟩ := ha
  obtain ⟨r0, rm0, rd0, r1, rm1, rd1, r3, rm3, rd3, r4, rm4, rd4, r5, rm5, rd5, rfl, i0, i1, i3, i4, i5⟩ := hb
  obtain ⟨W, hW, bC, bU, bX, A1⟩ := three_box w #[.slice q1 n1 c1, .slice q2 n2 c2, .slice q3 n3 c3, .string ⟨c.dom.toArray⟩, .int .i64 c.age, .bool c.secure] #[.slice p0 pm0 pd0, .slice p1 pm1 pd1, .int .i64 u.port, .slice p3 pm3 pd3, .slice p4 pm4 pd4, .slice p5 pm5 pd5, .bool u.hq, .bool u.hf] #[.slice r0 rm0 rd0, .slice r1 rm1 rd1, .int .i64 x.port, .slice r3 rm3 rd3, .slice r4 rm4 rd4, .slice r5 rm5 rd5, .bool x.hq, .bool x.hf]
  have hC : CkIs W (.agg #[.slice q1 n1 c1, .slice q2 n2 c2, .slice q3 n3 c3, .string ⟨c.dom.toArray⟩, .int .i64 c.age, .bool c.secure]) c := ⟨_, _, _, _, _, _, _, _, _, rfl, h1.on A1, h2.on A1, h3.on A1⟩
  have hU : UrlIn W (.agg #[.slice p0 pm0 pd0, .slice p1 pm1 pd1, .int .i64 u.port, .slice p3 pm3 pd3, .slice p4 pm4 pd4, .slice p5 pm5 pd5, .bool u.hq, .bool u.hf]) u := ⟨_, _, _, _, _, _, _, _, _, _, _, _, _, _, _, rfl, g0.on A1, g1.on A1, g3.on A1, g4.on A1, g5.on A1⟩
  have hX : UrlIn W (.agg #[.slice r0 rm0 rd0, .slice r1 rm1 rd1, .int .i64 x.port, .slice r3 rm3 rd3, .slice r4 rm4 rd4, .slice r5 rm5 rd5, .bool x.hq, .bool x.hf]) x := ⟨_, _, _, _, _, _, _, _, _, _, _, _, _, _, _, rfl, i0.on A1, i1.on A1, i3.on A1, i4.on A1, i5.on A1⟩
  have hxp := i3.on A1
  have gh := g1.on A1
  have ih := i1.on A1
  have conE := Tryd.bytes_Equal_all r1 p1 rm1 rd1 pm1 pd1 (Lib.numsL x.host) (Lib.numsL u.host) W (by rw [Lib.numsL_length]; exact ih.at.1) (by rw [Lib.numsL_length]; exact gh.at.1) ih.at.2.2.2.2 gh.at.2.2.2.2
  rw [bytesOf_numsL, bytesOf_numsL, list_eqD] at conE
  have conC := covers_any _ _ c x W hC hs.1 hX hx
  have HS := Lib.hid (fun W2 (hb : Below W.heap.size W W2) => safe_any _ _ c x W2 (hC.on hb) (hX.on hb))
  have HH := Lib.hid (fun W2 (hb : Below W.heap.size W W2) => Home_by _ _ c u W2 (hC.on hb) (hU.on hb) hs.2 hl)
  have HP := Lib.hid hxp
  have BC := Lib.hid bC
  have BU := Lib.hid bU
  have BX := Lib.hid bX
  have HM := Lib.hid (meant_is c u.host u.path x.host x.path x.scheme)
  have x0 := bC.box 0 _ rfl
  have x1 := bC.box 1 _ rfl
  have x2 := bC.box 2 _ rfl
  have x3 := bC.box 3 _ rfl
  have x4 := bC.box 4 _ rfl
  have x5 := bC.box 5 _ rfl
  have z0 := bX.box 0 _ rfl
  have z1 := bX.box 1 _ rfl
  have z2 := bX.box 2 _ rfl
  have z3 := bX.box 3 _ rfl
  have z4 := bX.box 4 _ rfl
  have z5 := bX.box 5 _ rfl
  have z6 := bX.box 6 _ rfl
  have z7 := bX.box 7 _ rfl
  have y1 := bU.box 1 _ rfl
  have HW := Lib.hid hW
  generalize meantB c u.host u.path x.host x.path x.scheme = mb at *
  generalize safeB c x.scheme = sb at *
  generalize Host.withinB x.host c.dom = wb at *
  generalize decide (x.host = u.host) = eb at *
  clear h1 h2 h3 g0 g1 g3 g4 g5 i0 i1 i3 i4 i5 hC hU hX bC bU bX hW hs hl hx gh ih hxp
  go_enter Tryd.func10, Tryd.ntmps10
  go_upto_region 1 with fail
  rw [HW.out]
  go_cut [7] (fun s7 X => s7 = .bool (eb || wb) ∧ Below W.heap.size W X)
  case first =>
    cases eb with
    | true =>
      go_wp2_with fail
      refine conE.mono ?_
      rintro e w' ⟨rfl, rfl⟩
      go_wp2_with fail
      go_meet
      exact ⟨rfl, Below.refl _ _⟩
    | false =>
      go_wp2_with fail
      refine conE.mono ?_
      rintro e w' ⟨rfl, rfl⟩
      go_wp2_with fail
      refine conC.mono ?_
      rintro e w' ⟨rfl, hb⟩
      go_wp2_with fail
      go_meet
      exact ⟨rfl, hb⟩
  case rest =>
    obtain ⟨rfl, hb⟩ := hcut
    generalize wc = X1 at *
    have A2 := A1.trans (hb.mono A1.size)
    have bC2 := BC.out.on hb
    have bU2 := BU.out.on hb
    have bX2 := BX.out.on hb
    have bp := HP.out.on hb
    clear conE conC x0 x1 x2 x3 x4 x5 z0 z1 z2 z3 z4 z5 z6 z7 y1
    cases hnear : (eb || wb) with
    | false =>
      rw [hnear] at HM
      have HE := Lib.hid (show mb = false by rw [HM.out]; rfl)
      have A3 := A2.drew
      clear hnear HS HH HM HP BC BU BX bC2 bU2 bX2 bp A2
      go_wp2_with fail
      refine pregion_any (fun _ => True) (by kernel_rfl) ?_
      generalize X1.drew = X2 at *
      refine wpAnyH_take (i := 0) (v := (.bool false)) rfl (by kernel_rfl) (by kernel_rfl) (by kernel_rfl) (fun _ _ _ h => h) (.inl ⟨by kernel_rfl, ?_⟩) trivial ?_
      · rintro w _; go_simp <;> omega
      refine plist #[true, false, false, false, false, false, false, false, false, false, false, false, false, false, false] (by kernel_rfl) ?_
      refine wpAnyH_take (i := 1) (v := (.bool false)) rfl (by kernel_rfl) (by kernel_rfl) (by kernel_rfl) (fun _ _ _ h => h) (.inl ⟨by kernel_rfl, ?_⟩) trivial ?_
      · rintro w _; go_simp <;> omega
      refine plist #[true, true, false, false, false, false, false, false, false, false, false, false, false, false, false] (by kernel_rfl) ?_
      refine wpAnyH_take (i := 2) (v := (undef)) rfl (by kernel_rfl) (by kernel_rfl) (by kernel_rfl) (fun _ _ _ h => h) (.inr ⟨by kernel_rfl, rfl⟩) trivial ?_
      refine plist #[true, true, true, false, false, false, false, false, false, false, false, false, false, false, false] (by kernel_rfl) ?_
      refine wpAnyH_take (i := 3) (v := (undef)) rfl (by kernel_rfl) (by kernel_rfl) (by kernel_rfl) (fun _ _ _ h => h) (.inr ⟨by kernel_rfl, rfl⟩) trivial ?_
      refine plist #[true, true, true, true, false, false, false, false, false, false, false, false, false, false, false] (by kernel_rfl) ?_
      refine wpAnyH_take (i := 4) (v := (undef)) rfl (by kernel_rfl) (by kernel_rfl) (by kernel_rfl) (fun _ _ _ h => h) (.inr ⟨by kernel_rfl, rfl⟩) trivial ?_
      refine plist #[true, true, true, true, true, false, false, false, false, false, false, false, false, false, false] (by kernel_rfl) ?_
      refine wpAnyH_take (i := 5) (v := (undef)) rfl (by kernel_rfl) (by kernel_rfl) (by kernel_rfl) (fun _ _ _ h => h) (.inr ⟨by kernel_rfl, rfl⟩) trivial ?_
      refine plist #[true, true, true, true, true, true, false, false, false, false, false, false, false, false, false] (by kernel_rfl) ?_
      refine wpAnyH_take (i := 6) (v := (undef)) rfl (by kernel_rfl) (by kernel_rfl) (by kernel_rfl) (fun _ _ _ h => h) (.inr ⟨by kernel_rfl, rfl⟩) trivial ?_
      refine plist #[true, true, true, true, true, true, true, false, false, false, false, false, false, false, false] (by kernel_rfl) ?_
      refine wpAnyH_take (i := 7) (v := (undef)) rfl (by kernel_rfl) (by kernel_rfl) (by kernel_rfl) (fun _ _ _ h => h) (.inr ⟨by kernel_rfl, rfl⟩) trivial ?_
      refine plist #[true, true, true, true, true, true, true, true, false, false, false, false, false, false, false] (by kernel_rfl) ?_
      refine wpAnyH_take (i := 8) (v := (.bool false)) rfl (by kernel_rfl) (by kernel_rfl) (by kernel_rfl) (fun _ _ _ h => h) (.inl ⟨by kernel_rfl, ?_⟩) trivial ?_
      · rintro w _; go_simp <;> omega
      refine plist #[true, true, true, true, true, true, true, true, true, false, false, false, false, false, false] (by kernel_rfl) ?_
      refine wpAnyH_take (i := 9) (v := (.bool false)) rfl (by kernel_rfl) (by kernel_rfl) (by kernel_rfl) (fun _ _ _ h => h) (.inl ⟨by kernel_rfl, ?_⟩) trivial ?_
      · rintro w _; go_simp <;> omega
      refine plist #[true, true, true, true, true, true, true, true, true, true, false, false, false, false, false] (by kernel_rfl) ?_
      refine wpAnyH_take (i := 10) (v := (undef)) rfl (by kernel_rfl) (by kernel_rfl) (by kernel_rfl) (fun _ _ _ h => h) (.inr ⟨by kernel_rfl, rfl⟩) trivial ?_
      refine plist #[true, true, true, true, true, true, true, true, true, true, true, false, false, false, false] (by kernel_rfl) ?_
      refine wpAnyH_take (i := 11) (v := (undef)) rfl (by kernel_rfl) (by kernel_rfl) (by kernel_rfl) (fun _ _ _ h => h) (.inr ⟨by kernel_rfl, rfl⟩) trivial ?_
      refine plist #[true, true, true, true, true, true, true, true, true, true, true, true, false, false, false] (by kernel_rfl) ?_
      refine wpAnyH_take (i := 12) (v := (undef)) rfl (by kernel_rfl) (by kernel_rfl) (by kernel_rfl) (fun _ _ _ h => h) (.inr ⟨by kernel_rfl, rfl⟩) trivial ?_
      refine plist #[true, true, true, true, true, true, true, true, true, true, true, true, true, false, false] (by kernel_rfl) ?_
      refine pone 13 (by kernel_rfl) rfl fun K hK => ?_
      go_simp
      refine hK _ _ trivial ?_
      clear hK K
      refine plist #[true, true, true, true, true, true, true, true, true, true, true, true, true, true, false] (by kernel_rfl) ?_
      refine pone 14 (by kernel_rfl) rfl fun K hK => ?_
      go_simp
      refine hK _ _ trivial ?_
      clear hK K
      refine pdone (by kernel_rfl) ?_ _
      go_wp2
      go_ret
      exact ⟨(by rw [HE.out]; try rfl), A3⟩
    | true =>
      rw [hnear] at HM
      have HE := Lib.hid (show mb = (hereB (homeL c u.path) x.path && sb) by rw [HM.out]; rfl)
      obtain ⟨wd, hwd⟩ : ∃ Z, X1.drew = Z := ⟨_, rfl⟩
      have D0 : Below X1.heap.size X1 wd := hwd ▸ ⟨rfl, rfl, rfl, Nat.le_refl _, fun _ _ => rfl⟩
      have B2 := hb.trans (D0.mono hb.size)
      replace A2 := A2.trans (D0.mono A2.size)
      replace bC2 := bC2.on D0
      replace bU2 := bU2.on D0
      replace bX2 := bX2.on D0
      replace bp := bp.on D0
      have HWD := Lib.hid hwd
      clear hnear HM hwd hb D0
      go_wp2_with fail
      refine pregion_any (fun X => CB w.heap.size #[.slice q1 n1 c1, .slice q2 n2 c2, .slice q3 n3 c3, .string ⟨c.dom.toArray⟩, .int .i64 c.age, .bool c.secure] X ∧ UB (w.heap.size + 1) #[.slice p0 pm0 pd0, .slice p1 pm1 pd1, .int .i64 u.port, .slice p3 pm3 pd3, .slice p4 pm4 pd4, .slice p5 pm5 pd5, .bool u.hq, .bool u.hf] X ∧ UB (w.heap.size + 2) #[.slice r0 rm0 rd0, .slice r1 rm1 rd1, .int .i64 x.port, .slice r3 rm3 rd3, .slice r4 rm4 rd4, .slice r5 rm5 rd5, .bool x.hq, .bool x.hf] X) (by kernel_rfl) ?_
      rw [HWD.out]
      refine wpAnyH_take (i := 0) (v := (.bool true)) rfl (by kernel_rfl) (by kernel_rfl) (by kernel_rfl) (fun _ _ _ h => h) (.inl ⟨by kernel_rfl, ?_⟩) ⟨bC2, bU2, bX2⟩ ?_
      · rintro w ⟨h1, h2, h3⟩; go_simp <;> omega
      refine plist #[true, false, false, false, false, false, false, false, false, false, false, false, false, false, false] (by kernel_rfl) ?_
      refine wpAnyH_take (i := 1) (v := (.bool true)) rfl (by kernel_rfl) (by kernel_rfl) (by kernel_rfl) (fun _ _ _ h => h) (.inl ⟨by kernel_rfl, ?_⟩) ⟨bC2, bU2, bX2⟩ ?_
      · rintro w ⟨h1, h2, h3⟩; go_simp <;> omega
      refine plist #[true, true, false, false, false, false, false, false, false, false, false, false, false, false, false] (by kernel_rfl) ?_
      refine wpAnyH_take (i := 2) (v := (.pointer (some ⟨w.heap.size + 2, 3, none⟩))) rfl (by kernel_rfl) (by kernel_rfl) (by kernel_rfl) (fun _ _ _ h => h) (.inl ⟨by kernel_rfl, ?_⟩) ⟨bC2, bU2, bX2⟩ ?_
      · rintro w ⟨h1, h2, h3⟩; go_simp <;> omega
      refine plist #[true, true, true, false, false, false, false, false, false, false, false, false, false, false, false] (by kernel_rfl) ?_
      refine wpAnyH_take (i := 3) (v := (.slice r3 rm3 rd3)) rfl (by kernel_rfl) (by kernel_rfl) (by kernel_rfl) (fun _ _ _ h => h) (.inl ⟨by kernel_rfl, ?_⟩) ⟨bC2, bU2, bX2⟩ ?_
      · rintro w ⟨h1, h2, h3⟩; have z3 := h3.box 3 _ rfl; go_simp <;> omega
      refine plist #[true, true, true, true, false, false, false, false, false, false, false, false, false, false, false] (by kernel_rfl) ?_
      refine wpAnyH_take (i := 4) (v := (.agg #[.slice q1 n1 c1, .slice q2 n2 c2, .slice q3 n3 c3, .string ⟨c.dom.toArray⟩, .int .i64 c.age, .bool c.secure])) rfl (by kernel_rfl) (by kernel_rfl) (by kernel_rfl) (fun _ _ _ h => h) (.inl ⟨by kernel_rfl, ?_⟩) ⟨bC2, bU2, bX2⟩ ?_
      · rintro w ⟨h1, h2, h3⟩; have x0 := h1.box 0 _ rfl; have x1 := h1.box 1 _ rfl; have x2 := h1.box 2 _ rfl; have x3 := h1.box 3 _ rfl; have x4 := h1.box 4 _ rfl; have x5 := h1.box 5 _ rfl; go_simp <;> omega
      refine plist #[true, true, true, true, true, false, false, false, false, false, false, false, false, false, false] (by kernel_rfl) ?_
      refine wpAnyH_take (i := 5) (v := (.agg #[.slice p0 pm0 pd0, .slice p1 pm1 pd1, .int .i64 u.port, .slice p3 pm3 pd3, .slice p4 pm4 pd4, .slice p5 pm5 pd5, .bool u.hq, .bool u.hf])) rfl (by kernel_rfl) (by kernel_rfl) (by kernel_rfl) (fun _ _ _ h => h) (.inl ⟨by kernel_rfl, ?_⟩) ⟨bC2, bU2, bX2⟩ ?_
      · rintro w ⟨h1, h2, h3⟩; have y0 := h2.box 0 _ rfl; have y1 := h2.box 1 _ rfl; have y2 := h2.box 2 _ rfl; have y3 := h2.box 3 _ rfl; have y4 := h2.box 4 _ rfl; have y5 := h2.box 5 _ rfl; have y6 := h2.box 6 _ rfl; have y7 := h2.box 7 _ rfl; go_simp <;> omega
      refine plist #[true, true, true, true, true, true, false, false, false, false, false, false, false, false, false] (by kernel_rfl) ?_
      have con := HH.out wd B2
      refine pone 6 (by kernel_rfl) rfl fun K hK => ?_
      go_simp
      refine con.mono ?_
      rintro e W3 ⟨qh, nh, ch, rfl, hh, hb⟩
      replace B2 := B2.trans (hb.mono B2.size)
      replace A2 := A2.trans (hb.mono A2.size)
      replace bC2 := bC2.on hb
      replace bU2 := bU2.on hb
      replace bX2 := bX2.on hb
      replace bp := bp.on hb
      clear con hb HH
      refine hK _ _ ⟨bC2, bU2, bX2⟩ ?_
      clear hK K
      refine plist #[true, true, true, true, true, true, true, false, false, false, false, false, false, false, false] (by kernel_rfl) ?_
      have con := goesOn_any _ _ _ _ _ _ x.path (homeL c u.path) W3 bp hh
      refine pone 7 (by kernel_rfl) rfl fun K hK => ?_
      go_simp
      refine con.mono ?_
      rintro e W4 ⟨rfl, hb⟩
      replace B2 := B2.trans (hb.mono B2.size)
      replace A2 := A2.trans (hb.mono A2.size)
      replace bC2 := bC2.on hb
      replace bU2 := bU2.on hb
      replace bX2 := bX2.on hb
      clear con hb bp hh
      refine hK _ _ ⟨bC2, bU2, bX2⟩ ?_
      clear hK K
      cases hg : hereB (homeL c u.path) x.path with
      | false =>
        rw [hg] at HE
        clear hg
        have HE2 := Lib.hid (show mb = false by rw [HE.out]; rfl)
        clear HE HS
        refine plist #[true, true, true, true, true, true, true, true, false, false, false, false, false, false, false] (by kernel_rfl) ?_
        refine wpAnyH_take (i := 8) (v := (.bool false)) rfl (by kernel_rfl) (by kernel_rfl) (by kernel_rfl) (fun _ _ _ h => h) (.inl ⟨by kernel_rfl, ?_⟩) ⟨bC2, bU2, bX2⟩ ?_
        · rintro w ⟨h1, h2, h3⟩; go_simp <;> omega
        refine plist #[true, true, true, true, true, true, true, true, true, false, false, false, false, false, false] (by kernel_rfl) ?_
        refine wpAnyH_take (i := 9) (v := (.bool false)) rfl (by kernel_rfl) (by kernel_rfl) (by kernel_rfl) (fun _ _ _ h => h) (.inl ⟨by kernel_rfl, ?_⟩) ⟨bC2, bU2, bX2⟩ ?_
        · rintro w ⟨h1, h2, h3⟩; go_simp <;> omega
        refine plist #[true, true, true, true, true, true, true, true, true, true, false, false, false, false, false] (by kernel_rfl) ?_
        refine wpAnyH_take (i := 10) (v := (undef)) rfl (by kernel_rfl) (by kernel_rfl) (by kernel_rfl) (fun _ _ _ h => h) (.inr ⟨by kernel_rfl, rfl⟩) ⟨bC2, bU2, bX2⟩ ?_
        refine plist #[true, true, true, true, true, true, true, true, true, true, true, false, false, false, false] (by kernel_rfl) ?_
        refine wpAnyH_take (i := 11) (v := (undef)) rfl (by kernel_rfl) (by kernel_rfl) (by kernel_rfl) (fun _ _ _ h => h) (.inr ⟨by kernel_rfl, rfl⟩) ⟨bC2, bU2, bX2⟩ ?_
        refine plist #[true, true, true, true, true, true, true, true, true, true, true, true, false, false, false] (by kernel_rfl) ?_
        refine wpAnyH_take (i := 12) (v := (undef)) rfl (by kernel_rfl) (by kernel_rfl) (by kernel_rfl) (fun _ _ _ h => h) (.inr ⟨by kernel_rfl, rfl⟩) ⟨bC2, bU2, bX2⟩ ?_
        refine plist #[true, true, true, true, true, true, true, true, true, true, true, true, true, false, false] (by kernel_rfl) ?_
        refine pone 13 (by kernel_rfl) rfl fun K hK => ?_
        go_simp
        refine hK _ _ ⟨bC2, bU2, bX2⟩ ?_
        clear hK K
        refine plist #[true, true, true, true, true, true, true, true, true, true, true, true, true, true, false] (by kernel_rfl) ?_
        refine pone 14 (by kernel_rfl) rfl fun K hK => ?_
        go_simp
        refine hK _ _ ⟨bC2, bU2, bX2⟩ ?_
        clear hK K
        refine pdone (by kernel_rfl) ?_ _
        go_wp2
        go_ret
        exact ⟨(by rw [HE2.out]; try rfl), A2⟩
      | true =>
        rw [hg] at HE
        clear hg
        have HE2 := Lib.hid (show mb = sb by rw [HE.out]; rfl)
        clear HE
        refine plist #[true, true, true, true, true, true, true, true, false, false, false, false, false, false, false] (by kernel_rfl) ?_
        refine wpAnyH_take (i := 8) (v := (.bool true)) rfl (by kernel_rfl) (by kernel_rfl) (by kernel_rfl) (fun _ _ _ h => h) (.inl ⟨by kernel_rfl, ?_⟩) ⟨bC2, bU2, bX2⟩ ?_
        · rintro w ⟨h1, h2, h3⟩; go_simp <;> omega
        refine plist #[true, true, true, true, true, true, true, true, true, false, false, false, false, false, false] (by kernel_rfl) ?_
        refine wpAnyH_take (i := 9) (v := (.bool true)) rfl (by kernel_rfl) (by kernel_rfl) (by kernel_rfl) (fun _ _ _ h => h) (.inl ⟨by kernel_rfl, ?_⟩) ⟨bC2, bU2, bX2⟩ ?_
        · rintro w ⟨h1, h2, h3⟩; go_simp <;> omega
        refine plist #[true, true, true, true, true, true, true, true, true, true, false, false, false, false, false] (by kernel_rfl) ?_
        refine wpAnyH_take (i := 10) (v := (.agg #[.slice q1 n1 c1, .slice q2 n2 c2, .slice q3 n3 c3, .string ⟨c.dom.toArray⟩, .int .i64 c.age, .bool c.secure])) rfl (by kernel_rfl) (by kernel_rfl) (by kernel_rfl) (fun _ _ _ h => h) (.inl ⟨by kernel_rfl, ?_⟩) ⟨bC2, bU2, bX2⟩ ?_
        · rintro w ⟨h1, h2, h3⟩; have x0 := h1.box 0 _ rfl; have x1 := h1.box 1 _ rfl; have x2 := h1.box 2 _ rfl; have x3 := h1.box 3 _ rfl; have x4 := h1.box 4 _ rfl; have x5 := h1.box 5 _ rfl; go_simp <;> omega
        refine plist #[true, true, true, true, true, true, true, true, true, true, true, false, false, false, false] (by kernel_rfl) ?_
        refine wpAnyH_take (i := 11) (v := (.agg #[.slice r0 rm0 rd0, .slice r1 rm1 rd1, .int .i64 x.port, .slice r3 rm3 rd3, .slice r4 rm4 rd4, .slice r5 rm5 rd5, .bool x.hq, .bool x.hf])) rfl (by kernel_rfl) (by kernel_rfl) (by kernel_rfl) (fun _ _ _ h => h) (.inl ⟨by kernel_rfl, ?_⟩) ⟨bC2, bU2, bX2⟩ ?_
        · rintro w ⟨h1, h2, h3⟩; have z0 := h3.box 0 _ rfl; have z1 := h3.box 1 _ rfl; have z2 := h3.box 2 _ rfl; have z3 := h3.box 3 _ rfl; have z4 := h3.box 4 _ rfl; have z5 := h3.box 5 _ rfl; have z6 := h3.box 6 _ rfl; have z7 := h3.box 7 _ rfl; go_simp <;> omega
        refine plist #[true, true, true, true, true, true, true, true, true, true, true, true, false, false, false] (by kernel_rfl) ?_
        have con := HS.out W4 B2
        refine pone 12 (by kernel_rfl) rfl fun K hK => ?_
        go_simp
        refine con.mono ?_
        rintro e W5 ⟨rfl, hb⟩
        replace A2 := A2.trans (hb.mono A2.size)
        replace bC2 := bC2.on hb
        replace bU2 := bU2.on hb
        replace bX2 := bX2.on hb
        clear con hb HS
        refine hK _ _ ⟨bC2, bU2, bX2⟩ ?_
        clear hK K
        refine plist #[true, true, true, true, true, true, true, true, true, true, true, true, true, false, false] (by kernel_rfl) ?_
        refine pone 13 (by kernel_rfl) rfl fun K hK => ?_
        go_simp
        refine hK _ _ ⟨bC2, bU2, bX2⟩ ?_
        clear hK K
        refine plist #[true, true, true, true, true, true, true, true, true, true, true, true, true, true, false] (by kernel_rfl) ?_
        refine pone 14 (by kernel_rfl) rfl fun K hK => ?_
        go_simp
        refine hK _ _ ⟨bC2, bU2, bX2⟩ ?_
        clear hK K
        refine pdone (by kernel_rfl) ?_ _
        go_wp2
        go_ret
        exact ⟨(by rw [HE2.out]; try rfl), A2⟩
end Go.Proofs.YtdbpbfbjebjbeaaDoor.Ck

namespace Go.Proofs.YtdbpbfbjebjbeaaDoor.Ck
open Go.RowKit Go.Shelf Url Hdr
attribute [local go_sem] Oper.semAt_some
set_option linter.unusedVariables false

/-- All six cells set, one by one. -/
theorem CB.put {B : Nat} {X : World} {a0 a1 a2 a3 a4 a5 : Value} (h : CB B #[a0, a1, a2, a3, a4, a5] X) (v0 v1 v2 v3 v4 v5 : Value) :
    ∃ Y, (((((X.setCell ⟨B, 0, none⟩ v0).setCell ⟨B, 1, none⟩ v1).setCell ⟨B, 2, none⟩ v2).setCell ⟨B, 3, none⟩ v3).setCell ⟨B, 4, none⟩ v4).setCell ⟨B, 5, none⟩ v5 = Y ∧ CB B #[v0, v1, v2, v3, v4, v5] Y ∧ (∀ S : Nat → Prop, ¬ S B → Keep S X Y) ∧ ∀ M, M ≤ B → Below M X Y := by
  have h8 := (((((h.set 0 v0).set 1 v1).set 2 v2).set 3 v3).set 4 v4).set 5 v5
  simp only [List.setIfInBounds_toArray, List.set_cons_zero, List.set_cons_succ] at h8
  refine ⟨_, rfl, h8, fun S hS => ?_, fun M hM => ?_⟩
  · exact (((((Keep.setCell _ _ _ hS).trans (Keep.setCell _ _ _ hS)).trans (Keep.setCell _ _ _ hS)).trans (Keep.setCell _ _ _ hS)).trans (Keep.setCell _ _ _ hS)).trans (Keep.setCell _ _ _ hS)
  · exact (((((((Below.refl M X).setCell (p := ⟨B, 0, none⟩) hM v0).setCell (p := ⟨B, 1, none⟩) hM v1).setCell (p := ⟨B, 2, none⟩) hM v2).setCell (p := ⟨B, 3, none⟩) hM v3).setCell (p := ⟨B, 4, none⟩) hM v4).setCell (p := ⟨B, 5, none⟩) hM v5)
theorem CB.keep {b : Nat} {cs : Array Value} {S : Nat → Prop} {X Y : World} (h : CB b cs X) (hk : Keep S X Y) (hS : S b) : CB b cs Y := hk.heap hS h
theorem size_ck : (Tryd.prog.info? 25).map (·.size) = some 6 := by kernel_rfl
theorem results_cc {fn : Func} {p u : Tmp} {ty ty2 : TypeId} (h : fn.results = #[.cell p ty, .cell u ty2]) (tmps : Array Value) (P : Program) (w : World) :
    (results fn tmps).run P w =
      ((asAddr (tmps.getD p undef)).run P w).andThen fun a w₁ => ((loadVar ty a).run P w₁).andThen fun v w₂ => ((asAddr (tmps.getD u undef)).run P w₂).andThen fun b w₃ => ((loadVar ty2 b).run P w₃).andThen fun x w₄ => .ok (.tuple #[v, x]) w₄ := by
  simp only [results, h]
  simp [Sem.run_bind, Result.andThen]
theorem ret_ck2 {fn : Func} {p u : Tmp} (h : fn.results = #[.cell p 25, .cell u 4]) (tmps : Array Value) (w : World) (B Be : Nat) (cs : Array Value) (x : Value) (hp : tmps.getD p undef = .pointer (some ⟨B, 0, none⟩)) (hu : tmps.getD u undef = .pointer (some ⟨Be, 0, none⟩)) (hU : CB B cs w) (hs : cs.size = 6) (hE : w.cell? ⟨Be, 0, none⟩ = some x) :
    (results fn tmps).run Tryd.prog w = .ok (.tuple #[.agg cs, x]) w := by
  rw [results_cc h, hp, hu]
  have ha : ∀ w', (isAgg 4).run Tryd.prog w' = .ok false w' := Tryd.isAgg4
  have h2 : (loadVar 4 ⟨Be, 0, none⟩).run Tryd.prog w = .ok x w := by simp [loadVar, ha, hE]
  simp [asAddr, Result.andThen, run_loadVar_row w B 25 _ cs (0, 0) _ hU Tryd.underlying25 rfl (by rw [size_ck, hs]), h2]
theorem head_at (p : List UInt8) : headC p = if (atOk 61 p && tokL (trimB (atFst 61 p)) && (trimB (atSnd 61 p)).all valB) = true then some ⟨trimB (atFst 61 p), trimB (atSnd 61 p), [], [], -1, false⟩ else none := by
  obtain ⟨h1, h2⟩ := txt_at p
  unfold headC
  rw [h1, h2, ok_mem]
  simp only [Bool.and_eq_true, decide_eq_true_eq, and_assoc]

/-- What cookieOf answers. -/
def CoOut (r : Option Ck) (w : World) (e : Ending) (w' : World) : Prop := ∃ v, e = .returned (.tuple #[v, .bool r.isSome]) ∧ CkIs w' v (r.getD zeroC) ∧ Below w.heap.size w w'
theorem zero_is (w : World) : CkIs w (.agg #[.slice none 0 0, .slice none 0 0, .slice none 0 0, .string ⟨#[]⟩, .int .i64 0, .bool false]) zeroC := ⟨_, _, _, _, _, _, _, _, _, rfl, by_nil _, by_nil _, by_nil _⟩

/-! ### the loop -/
theorem by_bool {w : World} {k : Nat} {z : Bool} (hE : Boxed w k 4 (.bool z)) {q : Option Addr} {n c : Nat} {l : List UInt8} (h : By w (.slice q n c) l) : ∀ a, q = some a → 0 < n → a.block ≠ k := by
  intro a ha h0 e
  obtain ⟨b', o, he, hc⟩ := h.at.2.2.2.2.at h0
  rw [ha] at he
  cases he
  have e : b' = k := e
  subst e
  have h1 := hc 0 h0
  simp only [World.cell?, show w.heap[b']? = _ from hE] at h1
  rcases o with _ | o
  all_goals simp at h1
theorem by_lt {w : World} {q : Option Addr} {n c : Nat} {l : List UInt8} (h : By w (.slice q n c) l) : ∀ a, q = some a → 0 < n → a.block < w.heap.size := fun a ha h0 => bytes_lt h.at.2.2.2.2 a ha h0
theorem CX.keep {b : Nat} {q1 : Option Addr} {n1 c1 : Nat} {q2 : Option Addr} {n2 c2 : Nat} {q3 : Option Addr} {n3 c3 : Nat} {c : Ck} {S : Nat → Prop} {X Y : World} (h : CX b q1 n1 c1 q2 n2 c2 q3 n3 c3 c X) (hk : Keep S X Y) (hb : S b) (h1 : ∀ a, q1 = some a → 0 < n1 → S a.block) (h2 : ∀ a, q2 = some a → 0 < n2 → S a.block) (h3 : ∀ a, q3 = some a → 0 < n3 → S a.block) : CX b q1 n1 c1 q2 n2 c2 q3 n3 c3 c Y := by
  obtain ⟨_, _, _, _, _, _, _, _, _, hv, i1, i2, i3⟩ := id h.2
  cases hv
  exact ⟨h.1.keep hk hb, _, _, _, _, _, _, _, _, _, rfl, by_keep i1 hk h1, by_keep i2 hk h2, by_keep i3 hk h3⟩
theorem CX.parts {b : Nat} {q1 : Option Addr} {n1 c1 : Nat} {q2 : Option Addr} {n2 c2 : Nat} {q3 : Option Addr} {n3 c3 : Nat} {c : Ck} {X : World} (h : CX b q1 n1 c1 q2 n2 c2 q3 n3 c3 c X) : By X (.slice q1 n1 c1) c.name ∧ By X (.slice q2 n2 c2) c.value ∧ By X (.slice q3 n3 c3) c.path := by
  obtain ⟨_, _, _, _, _, _, _, _, _, hv, i1, i2, i3⟩ := id h.2
  cases hv
  exact ⟨i1, i2, i3⟩
/-- Between two rounds: the box holds what the attributes so far have made of the cookie. -/
structure AtI (b0 : Nat) (q1 : Option Addr) (n1 c1 : Nat) (q2 : Option Addr) (n2 c2 : Nat) (c0 : Ck) (W5 : World) (pre : List (Nat × List UInt8)) (Pv : Nat → Prop) (W : World) (q : Option Addr) (n c : Nat) (d : Ck) : Prop where
  box : CX b0 q1 n1 c1 q2 n2 c2 q n c d W
  got : attrs c0 (pre.map Prod.snd) = some d
  off : ∀ a, q = some a → 0 < n → ¬ Pv a.block
  new : ∀ b, Pv b → W5.heap.size ≤ b
  kept : Keep (fun b => b < W5.heap.size ∧ b ≠ b0) W5 W
def AtJ (b0 : Nat) (q1 : Option Addr) (n1 c1 : Nat) (q2 : Option Addr) (n2 c2 : Nat) (c0 : Ck) (W5 : World) (pre : List (Nat × List UInt8)) (Pv : Nat → Prop) (W : World) : Prop := ∃ q n c d, AtI b0 q1 n1 c1 q2 n2 c2 c0 W5 pre Pv W q n c d
theorem AtI.to {b0 : Nat} {q1 : Option Addr} {n1 c1 : Nat} {q2 : Option Addr} {n2 c2 : Nat} {c0 : Ck} {W5 : World} (hb0 : b0 < W5.heap.size) (h1 : ∀ a, q1 = some a → 0 < n1 → a.block < W5.heap.size) (h2 : ∀ a, q2 = some a → 0 < n2 → a.block < W5.heap.size) {pre : List (Nat × List UInt8)} {Pv Pv' : Nat → Prop} {A B : World} {q : Option Addr} {n c : Nat} {d : Ck} (h : AtI b0 q1 n1 c1 q2 n2 c2 c0 W5 pre Pv A q n c d) (hk : Keep (fun b => ¬ Pv b) A B) (hp : ∀ b, Pv' b → (Pv b ∨ A.heap.size ≤ b)) : AtI b0 q1 n1 c1 q2 n2 c2 c0 W5 pre Pv' B q n c d := by
  have hnP : ∀ k, k < W5.heap.size → ¬ Pv k := fun k hk hP => by have := h.new k hP; omega
  refine ⟨h.box.keep hk (hnP _ hb0) (fun a ha h0 => hnP _ (h1 a ha h0)) (fun a ha h0 => hnP _ (h2 a ha h0)) h.off, h.got, fun a ha h0 hP => ?_, fun b hb => ?_, h.kept.trans (hk.mono fun b _ hb => hnP b hb.1)⟩
  · rcases hp _ hP with h' | h'
    · exact h.off a ha h0 h'
    · have := by_lt h.box.parts.2.2 a ha h0
      omega
  · rcases hp b hb with h' | h'
    · exact h.new b h'
    · have := h.kept.size
      omega
theorem AtJ_abide {b0 : Nat} {q1 : Option Addr} {n1 c1 : Nat} {q2 : Option Addr} {n2 c2 : Nat} {c0 : Ck} {W5 : World} (hb0 : b0 < W5.heap.size) (h1 : ∀ a, q1 = some a → 0 < n1 → a.block < W5.heap.size) (h2 : ∀ a, q2 = some a → 0 < n2 → a.block < W5.heap.size) : Abide (AtJ b0 q1 n1 c1 q2 n2 c2 c0 W5) := by
  rintro s Pv Pv' A B ⟨q, n, c, d, h⟩ hk hp
  exact ⟨q, n, c, d, h.to hb0 h1 h2 hk (fun b hb => (hp b hb).1)⟩
/-- Where an attribute that can't be has left the loop. -/
structure AtX (w : World) (c0 : Ck) (xs : List (Nat × List UInt8)) (W5 : World) (c : Code) (Pv : Nat → Prop) (W : World) : Prop where
  ret : c = .ret
  zero : CB w.heap.size #[.slice none 0 0, .slice none 0 0, .slice none 0 0, .string ⟨#[]⟩, .int .i64 0, .bool false] W
  flag : Boxed W (w.heap.size + 1) 4 (.bool false)
  none : attrs c0 (xs.map Prod.snd) = none
  bel : Below w.heap.size w W
  new : ∀ b, Pv b → W5.heap.size ≤ b
  big : W5.heap.size ≤ W.heap.size
theorem AtX_abide {w : World} {c0 : Ck} {xs : List (Nat × List UInt8)} {W5 : World} (h0 : w.heap.size + 2 ≤ W5.heap.size) (c : Code) : Abide (fun (_ : List (Nat × List UInt8)) Pv W => AtX w c0 xs W5 c Pv W) := by
  rintro s Pv Pv' A B h hk hp
  have hnP : ∀ k, k < W5.heap.size → ¬ Pv k := fun k hk hP => by have := h.new k hP; omega
  refine ⟨h.ret, h.zero.keep hk (hnP _ (by omega)), hk.boxed h.flag (hnP _ (by omega)), h.none, h.bel.trans ((hk.mono fun b _ hb => hnP b (by omega)).below h.bel.size), fun b hb => ?_, Nat.le_trans h.big hk.size⟩
  rcases (hp b hb).1 with h' | h'
  · exact h.new b h'
  · have := h.big
    omega
theorem attrs_one (c0 d : Ck) (pre : List (Nat × List UInt8)) (xi : Nat) (x : List UInt8) (rest : List (Nat × List UInt8)) (h : attrs c0 (pre.map Prod.snd) = some d) : (attr d x = none → attrs c0 ((pre ++ (xi, x) :: rest).map Prod.snd) = none) ∧ ∀ e, attr d x = some e → attrs c0 ((pre ++ [(xi, x)]).map Prod.snd) = some e := by
  rw [List.map_append, List.map_append, attrs_app _ _ _ _ h, attrs_app _ _ _ _ h]
  refine ⟨fun hn => ?_, fun e he => ?_⟩
  · simp only [List.map_cons, attrs, hn]
  · simp only [List.map_cons, List.map_nil, attrs, he]
theorem attr_at (d : Ck) (x : List UInt8) : attr d x = attrK d (Ref.lowL (trimB (atFst 61 x))) (trimB (atSnd 61 x)) := by
  obtain ⟨h1, h2⟩ := txt_at x
  rw [attr_is, h1]
  unfold keyL
  rw [h2]

set_option maxRecDepth 100000 in
set_option maxHeartbeats 16000000 in
theorem cookieOf_any (q : Option Addr) (n c : Nat) (t : List UInt8) (w : World) (hby : By w (.slice q n c) t) (hn : n ≤ 1048576) :
    Calls Tryd.prog 13 #[.slice q n c] w (CoOut (cookieL t) w) := by
  have hl := hby.at.1
  obtain ⟨W1, hW1⟩ : ∃ W1, (w.alloc (.cells #[.slice none 0 0, .slice none 0 0, .slice none 0 0, .string ⟨#[]⟩, .int .i64 0, .bool false] 25)).alloc (.cells #[.bool false] 4) = W1 := ⟨_, rfl⟩
  have A1 : Below w.heap.size w W1 := hW1 ▸ ((Below.refl _ w).alloc (Nat.le_refl _) _).alloc (by simp) _
  have bR : CB w.heap.size #[.slice none 0 0, .slice none 0 0, .slice none 0 0, .string ⟨#[]⟩, .int .i64 0, .bool false] W1 := hW1 ▸ (CB.new w _).on (below_alloc _)
  have bE : Boxed W1 (w.heap.size + 1) 4 (.bool false) := by
    have := Boxed.new (w.alloc (.cells #[.slice none 0 0, .slice none 0 0, .slice none 0 0, .string ⟨#[]⟩, .int .i64 0, .bool false] 25)) 4 (.bool false)
    rw [World.size_alloc] at this
    exact hW1 ▸ this
  have hs1 : W1.heap.size = w.heap.size + 2 := by rw [← hW1]; simp
  have HW1 := Lib.hid hW1
  clear hW1
  refine (callsIn_wide (n := 1)).1 ?_
  refine callsIn_of_wp_marks Tryd.func13 rfl trivial ?_ rfl
  simp only [Tryd.ntmps13, List.size_toArray, List.length_cons, List.length_nil, Nat.reduceAdd, Nat.reduceSub, Array.replicate_succ, Array.replicate_zero, List.push_toArray, List.append_toArray, List.nil_append, List.cons_append]
  have con := At_by q n c t 59 W1 (hby.on A1) (by omega)
  have HC := Lib.hid (cookie_go t)
  obtain ⟨k1, k2⟩ := at_lens 59 t
  have HK := Lib.hid (show (atFst 59 t).length ≤ 1048576 ∧ (atSnd 59 t).length ≤ 1048576 by omega)
  generalize cookieL t = R at *
  generalize atFst 59 t = p at *
  generalize atSnd 59 t = u at *
  generalize atOk 59 t = ok at *
  clear hby hl hn k1 k2
  gi_wp2_with fail
  rw [HW1.out]
  gi_wp2_with fail
  refine ⟨trivial, (callsIn_wide.2 con).mono ?_⟩
  rintro e W2 ⟨q1, n1, c1, q2, n2, c2, rfl, y1, y2, hb⟩
  have con := pair_any q1 n1 c1 p W2 y1.1 (by have := y1.1.at.1; have := HK.out.1; omega)
  have A2 := A1.trans (hb.mono A1.size)
  replace bR := bR.on hb
  replace bE := (Keep.of_below hb).boxed bE bE.lt
  have y2' := y2.1
  have HH := Lib.hid (head_at p)
  obtain ⟨l1, l2⟩ := at_lens 61 p
  have HL1 := Lib.hid (show (trimB (atFst 61 p)).length ≤ 1048576 ∧ (trimB (atSnd 61 p)).length ≤ 1048576 by
    have h1 := trim_le (atFst 61 p)
    have h2 := trim_le (atSnd 61 p)
    have := HK.out.1
    omega)
  generalize trimB (atFst 61 p) = NM at *
  generalize trimB (atSnd 61 p) = VL at *
  generalize atOk 61 p = f at *
  clear y1 y2 hb l1 l2
  gi_wp2_with fail
  refine ⟨trivial, (callsIn_wide.2 con).mono ?_⟩
  rintro e W3 ⟨q3, n3, c3, q4, n4, c4, rfl, y3, y4, hb⟩
  have A3 := A2.trans (hb.mono A2.size)
  replace bR := bR.on hb
  replace bE := (Keep.of_below hb).boxed bE bE.lt
  replace y2' := y2'.on hb
  have conT := Token_any q3 n3 c3 NM W3 y3.1.at.1 (by have := y3.1.at.1; have := HL1.out.1; omega) y3.1.at.2.2.2.2
  have conV := isValue_any q4 n4 c4 VL W3 y4.1.at.1 (by have := y4.1.at.1; have := HL1.out.2; omega) y4.1.at.2.2.2.2
  clear hb con
  generalize tokL NM = tk at *
  generalize VL.all valB = va at *
  obtain ⟨g, hg⟩ : ∃ g, (f && tk && va) = g := ⟨_, rfl⟩
  rw [hg] at HH
  have HG := Lib.hid hg
  clear hg
  cases g with
  | false =>
    have HE := Lib.hid (show R = none by rw [HC.out, HH.out, if_neg (by simp)])
    have z0 := bR.box 0 _ rfl
    have z1 := bR.box 1 _ rfl
    have z2 := bR.box 2 _ rfl
    have z3 := bR.box 3 _ rfl
    have z4 := bR.box 4 _ rfl
    have z5 := bR.box 5 _ rfl
    have f0 := bR.frozen 0
    have f1 := bR.frozen 1
    have f2 := bR.frozen 2
    have f3 := bR.frozen 3
    have f4 := bR.frozen 4
    have f5 := bR.frozen 5
    obtain ⟨Y, hY, bY, hkY, hBY⟩ := bR.put (.slice none 0 0) (.slice none 0 0) (.slice none 0 0) (.string ⟨#[]⟩) (.int .i64 0) (.bool false)
    have eY := (hkY (fun b => b = w.heap.size + 1) (by omega)).boxed bE rfl
    have bZ := (Keep.setCell (S := fun b => b = w.heap.size) Y ⟨w.heap.size + 1, 0, none⟩ (.bool false) (by simp)).heap rfl bY
    have eZ := (eY.set (.bool false)).cell
    have AZ := (A3.trans ((hBY w.heap.size (Nat.le_refl _)))).setCell (p := ⟨w.heap.size + 1, 0, none⟩) (by simp) (.bool false)
    have ec : ((((((W3.setCell ⟨w.heap.size, 0, none⟩ (.slice none 0 0)).setCell ⟨w.heap.size, 1, none⟩ (.slice none 0 0)).setCell ⟨w.heap.size, 2, none⟩ (.slice none 0 0)).setCell ⟨w.heap.size, 3, none⟩ (.string ⟨#[]⟩)).setCell ⟨w.heap.size, 4, none⟩ (.int .i64 0)).setCell ⟨w.heap.size, 5, none⟩ (.bool false)).cell? ⟨w.heap.size + 1, 0, none⟩ = some (.bool false) := by rw [hY]; exact eY.cell
    have ef : ((((((W3.setCell ⟨w.heap.size, 0, none⟩ (.slice none 0 0)).setCell ⟨w.heap.size, 1, none⟩ (.slice none 0 0)).setCell ⟨w.heap.size, 2, none⟩ (.slice none 0 0)).setCell ⟨w.heap.size, 3, none⟩ (.string ⟨#[]⟩)).setCell ⟨w.heap.size, 4, none⟩ (.int .i64 0)).setCell ⟨w.heap.size, 5, none⟩ (.bool false)).frozen? ⟨w.heap.size + 1, 0, none⟩ = false := by rw [hY]; exact eY.frozen
    have HY := Lib.hid hY
    clear hY hkY hBY bY eY bR bE y2' y3 y4 HC HH HK HL1
    have KE : ∀ (Z : World), Z = Y.setCell ⟨w.heap.size + 1, 0, none⟩ (.bool false) → CoOut R w (.returned (.tuple #[.agg #[.slice none 0 0, .slice none 0 0, .slice none 0 0, .string ⟨#[]⟩, .int .i64 0, .bool false], .bool false])) Z := fun Z hZ => by
      rw [HE.out, hZ]
      exact ⟨_, rfl, zero_is _, AZ⟩
    cases f with
    | false =>
      clear conT conV HG
      gi_wp2_with fail
      refine ⟨trivial, ?_⟩
      gi_wp2_with fail
      refine ⟨trivial, ?_⟩
      gi_wp2
      rw [HY.out]
      exact ⟨_, ret_ck2 rfl _ _ w.heap.size (w.heap.size + 1) _ _ rfl rfl bZ rfl eZ, KE _ rfl⟩
    | true =>
      cases tk with
      | false =>
        clear conV HG
        gi_wp2_with fail
        refine ⟨trivial, (callsIn_wide.2 conT).mono ?_⟩
        rintro e w' ⟨rfl, rfl⟩
        gi_wp2_with fail
        refine ⟨trivial, ?_⟩
        gi_wp2
        rw [HY.out]
        exact ⟨_, ret_ck2 rfl _ _ w.heap.size (w.heap.size + 1) _ _ rfl rfl bZ rfl eZ, KE _ rfl⟩
      | true =>
        obtain rfl : va = false := HG.out
        clear HG
        gi_wp2_with fail
        refine ⟨trivial, (callsIn_wide.2 conT).mono ?_⟩
        rintro e w' ⟨rfl, rfl⟩
        gi_wp2_with fail
        refine ⟨trivial, (callsIn_wide.2 conV).mono ?_⟩
        rintro e w' ⟨rfl, rfl⟩
        gi_wp2
        rw [HY.out]
        exact ⟨_, ret_ck2 rfl _ _ w.heap.size (w.heap.size + 1) _ _ rfl rfl bZ rfl eZ, KE _ rfl⟩
  | true =>
    obtain ⟨⟨rfl, rfl⟩, rfl⟩ : (f = true ∧ tk = true) ∧ va = true := by
      have h := HG.out
      simp only [Bool.and_eq_true] at h
      exact h
    have HE := Lib.hid (show R = attrs ⟨NM, VL, [], [], -1, false⟩ (Ref.splitL 59 u) by rw [HC.out, HH.out, if_pos rfl])
    clear HC HH HG
    gi_wp2_with fail
    refine ⟨trivial, (callsIn_wide.2 conT).mono ?_⟩
    rintro e w' ⟨rfl, rfl⟩
    gi_wp2_with fail
    refine ⟨trivial, (callsIn_wide.2 conV).mono ?_⟩
    rintro e w' ⟨rfl, rfl⟩
    clear conT conV
    -- the loop
    have hb0 : CkIs W3 (.agg #[.slice q3 n3 c3, .slice q4 n4 c4, .slice none 0 0, .string ⟨([] : List UInt8).toArray⟩, .int .i64 (-1), .bool false]) ⟨NM, VL, [], [], -1, false⟩ := ⟨_, _, _, _, _, _, _, _, _, rfl, y3.1, y4.1, by_nil _⟩
    have hs3 : w.heap.size + 2 ≤ W3.heap.size := by have := bE.lt; omega
    have X0 := CX.new (c := ⟨NM, VL, [], [], -1, false⟩) hb0
    obtain ⟨W4, hW4⟩ : ∃ Z, W3.alloc (.cells #[.slice q3 n3 c3, .slice q4 n4 c4, .slice none 0 0, .string ⟨#[]⟩, .int .i64 (-1), .bool false] 25) = Z := ⟨_, rfl⟩
    have hB4 : Below W3.heap.size W3 W4 := hW4 ▸ below_alloc _
    have hs4 : W4.heap.size = W3.heap.size + 1 := by rw [← hW4]; simp
    replace X0 : CX W3.heap.size q3 n3 c3 q4 n4 c4 none 0 0 ⟨NM, VL, [], [], -1, false⟩ W4 := by rw [← hW4]; exact X0
    have HL3 := Lib.hid (by_lt y3.1)
    have HL4 := Lib.hid (by_lt y4.1)
    have y24 := y2'.on hB4
    have con := Split_any q2 n2 c2 59 u W4 y24.at.1 (by have := y24.at.1; have := HK.out.2; omega) y24.at.2.2.2.2
    have HU := Lib.hid (show u.length = n2 from y24.at.1)
    have HUB := Lib.hid HK.out.2
    have HW4 := Lib.hid hW4
    replace bR := bR.on hB4
    replace bE := (Keep.of_below hB4).boxed bE bE.lt
    have A4 := A3.trans (hB4.mono A3.size)
    clear hW4 hb0 y3 y4 y2' y24 hB4 HK HL1 A1 A2
    gi_wp2_with fail
    rw [HW4.out]
    refine ⟨trivial, (callsIn_wide.2 con).mono ?_⟩
    rintro e W5 ⟨B, v', rfl, hB, hBc, hrow, hBl, hbel⟩
    have hsm := splitX_small 59 u n2 HU.out
    have hit := Split_iter (by have := HUB.out; have := HU.out; omega) hB hBc hrow
    have hRl0 : ∀ b, (b = B ∨ b = W4.heap.size ∨ v'.ownBlock = some b) → W3.heap.size + 1 ≤ b ∧ b < W5.heap.size := fun b hb => by
      rcases hb with rfl | rfl | hb
      · exact ⟨by omega, hB.lt⟩
      · exact ⟨by omega, hBc.lt⟩
      · have := hrow.lt b hb; exact ⟨by omega, this.2⟩
    obtain ⟨RB, hRB⟩ : ∃ RB : Nat → Prop, RB = fun b => b = B ∨ b = W4.heap.size ∨ v'.ownBlock = some b := ⟨_, rfl⟩
    rw [← hRB] at hit
    have hRl : ∀ b, RB b → W3.heap.size + 1 ≤ b ∧ b < W5.heap.size := fun b hb => hRl0 b (by rw [hRB] at hb; exact hb)
    clear hRB hRl0
    have X5 := X0.on hbel
    replace bR := bR.on hbel
    replace bE := (Keep.of_below hbel).boxed bE bE.lt
    have A5 := A4.trans (hbel.mono A4.size)
    have hs5 : W3.heap.size + 1 ≤ W5.heap.size := by have := hbel.size; omega
    have hsU : Ref.splitL 59 u = (splitX 59 u).map Prod.snd := (Host.splitX_snd 59 u).symm
    have HE2 := Lib.hid (show R = attrs ⟨NM, VL, [], [], -1, false⟩ ((splitX 59 u).map Prod.snd) by rw [HE.out, hsU])
    clear con hB hBc hrow hBl hbel HW4 X0 A4 A3 hsU HE
    generalize splitX 59 u = xs at *
    obtain ⟨c0, hc0⟩ : ∃ c0 : Ck, ⟨NM, VL, [], [], -1, false⟩ = c0 := ⟨_, rfl⟩
    rw [hc0] at HE2 X5
    clear hc0
    have hl1 : ∀ a, q3 = some a → 0 < n3 → a.block < W5.heap.size := fun a ha h0 => by have := HL3.out a ha h0; omega
    have hl2 : ∀ a, q4 = some a → 0 < n4 → a.block < W5.heap.size := fun a ha h0 => by have := HL4.out a ha h0; omega
    have HN2 := Lib.hid (show n2 ≤ 1048576 by have := HUB.out; have := HU.out; omega)
    clear HL3 HL4 HU HUB hs4
    gi_wp2
    refine rf_law (gf := 47) (lb := #[.pointer (some ⟨B, 0, none⟩), .pointer (some ⟨W4.heap.size, 0, none⟩)]) rfl (enters_of Tryd.func47 (by kernel_rfl) rfl)
      hit (Keep.refl _ _) (fun b hb => (hRl b hb).2) (fun x args G W h => by obtain ⟨v, rfl, _⟩ := h; rfl)
      (AtJ W3.heap.size q3 n3 c3 q4 n4 c4 c0 W5) (fun cc _ Pv W => AtX w c0 xs W5 cc Pv W) (AtJ_abide (by omega) hl1 hl2) (AtX_abide (by omega))
      ⟨none, 0, 0, c0, X5, rfl, (fun _ h => by cases h), (fun _ h => h.elim), Keep.refl _ _⟩ ?round ?done ?stop
    case round =>
      rintro ll pre ⟨xi, x⟩ rest Pv G args Wr hll hxs ⟨qp, np, cp, d, hI⟩ hPl hGl hPb hGP ⟨p, rfl, hp, rfl⟩
      have hxl : x.length ≤ 1048576 := by
        have := hsm (xi, x) (by rw [hxs]; simp)
        have := HN2.out
        simp only at *
        omega
      simp only at hp
      obtain ⟨qx, cx, rfl, _, hnc, hcm, hbs, hblk⟩ := row_open hp
      have hbyx : By Wr (.slice qx x.length cx) x := By.row hp
      have HXS := Lib.hid hxs
      clear hxs
      gi_wp2
      refine ⟨Keep.refl _ _, fun W6 hk6 hs6 r hr => ?_⟩
      have hk6' : Keep (fun b => ¬ Pv b) Wr W6 := hk6.mono fun b _ hb h => hb (h ▸ hPl)
      replace hI := hI.to (Pv' := Pv) (by omega) hl1 hl2 hk6' (fun b hb => .inl hb)
      have gx : Keep (fun b => (Value.slice qx x.length cx).ownBlock = some b) Wr W6 := hk6.mono fun b _ hb h => hGl (h ▸ hb)
      have hby6 : By W6 (.slice qx x.length cx) x := by_keep hbyx gx (fun a ha _ => (hblk a ha).2.2)
      have hPb6 : ∀ b, Pv b → b < W6.heap.size := fun b hb => by rw [hs6]; exact hPb b hb
      have con := pair_any qx x.length cx x W6 hby6 (by omega)
      have HAT := Lib.hid (attr_at d x)
      have HA1 := Lib.hid (attrs_one c0 d pre xi x rest hI.got)
      obtain ⟨l1, l2⟩ := at_lens 61 x
      have HLX := Lib.hid (show (trimB (atFst 61 x)).length ≤ 1048576 ∧ (trimB (atSnd 61 x)).length ≤ 1048576 by
        have h1 := trim_le (atFst 61 x)
        have h2 := trim_le (atSnd 61 x)
        omega)
      have hnP : ∀ b, b < W5.heap.size → ¬ Pv b := fun b hb h => by have := hI.new b h; omega
      have hsz6 : W5.heap.size ≤ W6.heap.size := hI.kept.size
      generalize trimB (atFst 61 x) = kn at *
      generalize trimB (atSnd 61 x) = tx at *
      generalize atOk 61 x = fd at *
      clear hr hk6 hk6' hs6 hbs hp hbyx hblk gx hby6 l1 l2 hxl hPb hnc hcm
      gi_wp2_with fail
      refine ⟨trivial, rfl, (CallsIn.inRound ll (callsIn_wide.2 con)).mono ?_⟩
      rintro e W7 ⟨qa, na, ca, qt, nt, ct, rfl, ya, yt, hb7⟩
      have X7 := hI.box.on hb7
      have con := take_any W3.heap.size q3 n3 c3 q4 n4 c4 qp np cp d qa na ca kn qt nt ct tx W7 X7 ya.1 yt.1 (by have := ya.1.at.1; have := HLX.out.1; omega) (by have := yt.1.at.1; have := HLX.out.2; omega)
      rw [← HAT.out] at con
      have HYT := Lib.hid yt.2
      have HI := Lib.hid hI
      have kb7 : Keep (fun b => b < W6.heap.size) W6 W7 := Keep.of_below hb7
      clear X7 ya yt hb7 HLX HAT hI
      gi_wp2_with fail
      refine ⟨trivial, rfl, (CallsIn.inRound ll (callsIn_wide.2 con)).mono ?_⟩
      rintro e W8 ⟨ok, rfl, hk8, hcase⟩
      have k68 : ∀ S : Nat → Prop, (∀ b, S b → b < W6.heap.size ∧ b ≠ W3.heap.size) → Keep S W6 W8 := fun S hS => (kb7.mono fun b _ h => (hS b h).1).trans (hk8.mono fun b _ h => (hS b h).2)
      have hS0 : ∀ b, (RB b ∨ (Pv b ∧ ¬ (Value.slice qx x.length cx).ownBlock = some b)) → b < W6.heap.size ∧ b ≠ W3.heap.size := fun b hb => by
        rcases hb with h | h
        · have := hRl b h; omega
        · have := hPb6 b h.1
          exact ⟨this, fun e => hnP b (by omega) h.1⟩
      have k58 : Keep (fun b => b < W5.heap.size ∧ b ≠ W3.heap.size) W5 W8 := HI.out.kept.trans (k68 _ fun b hb => ⟨by omega, hb.2⟩)
      rcases hcase with ⟨rfl, hno⟩ | ⟨rfl, q9, n9, c9, d', hyes, X8, hP8⟩
      · have HNO := Lib.hid (show attrs c0 (xs.map Prod.snd) = none by rw [HXS.out]; exact HA1.out.1 hno)
        have bR8 := bR.keep k58 ⟨by omega, by omega⟩
        have bE8 := k58.boxed bE ⟨by omega, by omega⟩
        have A8 : Below w.heap.size w W8 := A5.trans ((k58.mono fun b _ h => ⟨by omega, by omega⟩).below A5.size)
        have z0 := bR8.box 0 _ rfl
        have z1 := bR8.box 1 _ rfl
        have z2 := bR8.box 2 _ rfl
        have z3 := bR8.box 3 _ rfl
        have z4 := bR8.box 4 _ rfl
        have z5 := bR8.box 5 _ rfl
        have f0 := bR8.frozen 0
        have f1 := bR8.frozen 1
        have f2 := bR8.frozen 2
        have f3 := bR8.frozen 3
        have f4 := bR8.frozen 4
        have f5 := bR8.frozen 5
        obtain ⟨Y, hY, bY, hkY, hBY⟩ := bR8.put (.slice none 0 0) (.slice none 0 0) (.slice none 0 0) (.string ⟨#[]⟩) (.int .i64 0) (.bool false)
        have eY := (hkY (fun b => b = w.heap.size + 1) (by omega)).boxed bE8 rfl
        have ec : ((((((W8.setCell ⟨w.heap.size, 0, none⟩ (.slice none 0 0)).setCell ⟨w.heap.size, 1, none⟩ (.slice none 0 0)).setCell ⟨w.heap.size, 2, none⟩ (.slice none 0 0)).setCell ⟨w.heap.size, 3, none⟩ (.string ⟨#[]⟩)).setCell ⟨w.heap.size, 4, none⟩ (.int .i64 0)).setCell ⟨w.heap.size, 5, none⟩ (.bool false)).cell? ⟨w.heap.size + 1, 0, none⟩ = some (.bool false) := by rw [hY]; exact eY.cell
        have ef : ((((((W8.setCell ⟨w.heap.size, 0, none⟩ (.slice none 0 0)).setCell ⟨w.heap.size, 1, none⟩ (.slice none 0 0)).setCell ⟨w.heap.size, 2, none⟩ (.slice none 0 0)).setCell ⟨w.heap.size, 3, none⟩ (.string ⟨#[]⟩)).setCell ⟨w.heap.size, 4, none⟩ (.int .i64 0)).setCell ⟨w.heap.size, 5, none⟩ (.bool false)).frozen? ⟨w.heap.size + 1, 0, none⟩ = false := by rw [hY]; exact eY.frozen
        have bZ := (Keep.setCell (S := fun b => b = w.heap.size) Y ⟨w.heap.size + 1, 0, none⟩ (.bool false) (by simp)).heap rfl bY
        have eZ := eY.set (.bool false)
        have AZ := (A8.trans ((hBY w.heap.size (Nat.le_refl _)))).setCell (p := ⟨w.heap.size + 1, 0, none⟩) (by simp) (.bool false)
        have kZ : ∀ S : Nat → Prop, ¬ S w.heap.size → ¬ S (w.heap.size + 1) → Keep S W8 (Y.setCell ⟨w.heap.size + 1, 0, none⟩ (.bool false)) := fun S h1 h2 => (hkY S h1).trans (Keep.setCell _ _ _ h2)
        have HY := Lib.hid hY
        have HW := Lib.hid (show w.heap.size ≤ w.heap.size ∧ ∀ b, (RB b ∨ (Pv b ∧ ¬ (Value.slice qx x.length cx).ownBlock = some b)) → b ≠ w.heap.size ∧ b ≠ w.heap.size + 1 from ⟨Nat.le_refl _, fun b hb => by
          rcases hb with h | h
          · have := hRl b h; omega
          · exact ⟨fun e => hnP b (by omega) h.1, fun e => hnP b (by omega) h.1⟩⟩)
        clear hY hkY hBY bY eY bR8 bE8 con
        gi_wp2
        rw [HY.out]
        have kF := (k68 _ hS0).trans (kZ _ (fun h => (HW.out.2 _ h).1 rfl) (fun h => (HW.out.2 _ h).2 rfl))
        exact ⟨kF, rfl, bZ, eZ, HNO.out, AZ, fun b hb => HI.out.new b hb.1, Nat.le_trans hsz6 kF.size⟩
      · have HYES := Lib.hid (HA1.out.2 d' hyes)
        have kF := k68 _ hS0
        clear con
        gi_wp2
        exact ⟨kF, q9, n9, c9, d', X8, HYES.out, hP8 (fun b => ¬ (Pv b ∧ ¬ (Value.slice qx x.length cx).ownBlock = some b)) (fun a ha h0 h => HI.out.off a ha h0 h.1) (fun a ha h0 h => by have h1 := HYT.out a ha; have h2 := hPb6 _ h.1; omega), fun b hb => HI.out.new b hb.1, k58⟩
    case done =>
      rintro D Pv Wd hD hPD hPl ⟨qp, np, cp, d, hI⟩ hK
      have HR := Lib.hid (show R = some d from HE2.out.trans hI.got)
      have hDg : W5.heap.size ≤ D := hI.new D hPD
      have bRd := bR.keep hI.kept ⟨by omega, by omega⟩
      have bEd := hI.kept.boxed bE ⟨by omega, by omega⟩
      have A8 : Below w.heap.size w Wd := A5.trans ((hI.kept.mono fun b _ h => ⟨by omega, by omega⟩).below A5.size)
      obtain ⟨i1, i2, i3⟩ := hI.box.parts
      have z0 := bRd.box 0 _ rfl
      have z1 := bRd.box 1 _ rfl
      have z2 := bRd.box 2 _ rfl
      have z3 := bRd.box 3 _ rfl
      have z4 := bRd.box 4 _ rfl
      have z5 := bRd.box 5 _ rfl
      have f0 := bRd.frozen 0
      have f1 := bRd.frozen 1
      have f2 := bRd.frozen 2
      have f3 := bRd.frozen 3
      have f4 := bRd.frozen 4
      have f5 := bRd.frozen 5
      have x0 := hI.box.1.box 0 _ rfl
      have x1 := hI.box.1.box 1 _ rfl
      have x2 := hI.box.1.box 2 _ rfl
      have x3 := hI.box.1.box 3 _ rfl
      have x4 := hI.box.1.box 4 _ rfl
      have x5 := hI.box.1.box 5 _ rfl
      obtain ⟨Y, hY, bY, hkY, hBY⟩ := bRd.put (.slice q3 n3 c3) (.slice q4 n4 c4) (.slice qp np cp) (.string ⟨d.dom.toArray⟩) (.int .i64 d.age) (.bool d.secure)
      have eY := (hkY (fun b => b = w.heap.size + 1) (by omega)).boxed bEd rfl
      have ec : ((((((Wd.setCell ⟨w.heap.size, 0, none⟩ (.slice q3 n3 c3)).setCell ⟨w.heap.size, 1, none⟩ (.slice q4 n4 c4)).setCell ⟨w.heap.size, 2, none⟩ (.slice qp np cp)).setCell ⟨w.heap.size, 3, none⟩ (.string ⟨d.dom.toArray⟩)).setCell ⟨w.heap.size, 4, none⟩ (.int .i64 d.age)).setCell ⟨w.heap.size, 5, none⟩ (.bool d.secure)).cell? ⟨w.heap.size + 1, 0, none⟩ = some (.bool false) := by rw [hY]; exact eY.cell
      have ef : ((((((Wd.setCell ⟨w.heap.size, 0, none⟩ (.slice q3 n3 c3)).setCell ⟨w.heap.size, 1, none⟩ (.slice q4 n4 c4)).setCell ⟨w.heap.size, 2, none⟩ (.slice qp np cp)).setCell ⟨w.heap.size, 3, none⟩ (.string ⟨d.dom.toArray⟩)).setCell ⟨w.heap.size, 4, none⟩ (.int .i64 d.age)).setCell ⟨w.heap.size, 5, none⟩ (.bool d.secure)).frozen? ⟨w.heap.size + 1, 0, none⟩ = false := by rw [hY]; exact eY.frozen
      have kS : ∀ S : Nat → Prop, ¬ S w.heap.size → ¬ S (w.heap.size + 1) → ¬ S D → Keep S Wd ((Y.setCell ⟨w.heap.size + 1, 0, none⟩ (.bool true)).putObj D (.deferred none)) := fun S h1 h2 h3 => ((hkY S h1).trans (Keep.setCell _ _ _ h2)).trans (Keep.putObj _ D (.deferred none) h3)
      have hDP := ((hkY (fun b => b = D) (by omega)).trans (Keep.setCell (S := fun b => b = D) Y ⟨w.heap.size + 1, 0, none⟩ (.bool true) (by simp; omega))).heap rfl hK
      have bZ : CB w.heap.size #[.slice q3 n3 c3, .slice q4 n4 c4, .slice qp np cp, .string ⟨d.dom.toArray⟩, .int .i64 d.age, .bool d.secure] ((Y.setCell ⟨w.heap.size + 1, 0, none⟩ (.bool true)).putObj D (.deferred none)) := ((Keep.setCell (S := fun b => b = w.heap.size) Y ⟨w.heap.size + 1, 0, none⟩ (.bool true) (by simp)).trans (Keep.putObj _ D (.deferred none) (by omega))).heap rfl bY
      have eZ := ((Keep.putObj (S := fun b => b = w.heap.size + 1) (Y.setCell ⟨w.heap.size + 1, 0, none⟩ (.bool true)) D (.deferred none) (by omega)).boxed (eY.set (.bool true)) rfl).cell
      have AZ := A8.trans ((kS (fun b => b < w.heap.size) (by omega) (by omega) (by omega)).below A8.size)
      have ofD : ∀ (q : Option Addr) (n : Nat), (∀ a, q = some a → 0 < n → a.block < W5.heap.size) → ∀ a, q = some a → 0 < n → a.block ≠ D := fun q n h a ha h0 => by have := h a ha h0; omega
      have j1 := by_keep i1 (kS (fun b => b ≠ w.heap.size ∧ b ≠ w.heap.size + 1 ∧ b ≠ D) (by simp) (by simp) (by simp)) (fun a ha h0 => ⟨by_off bRd i1 a ha h0, by_bool bEd i1 a ha h0, ofD _ _ hl1 a ha h0⟩)
      have j2 := by_keep i2 (kS (fun b => b ≠ w.heap.size ∧ b ≠ w.heap.size + 1 ∧ b ≠ D) (by simp) (by simp) (by simp)) (fun a ha h0 => ⟨by_off bRd i2 a ha h0, by_bool bEd i2 a ha h0, ofD _ _ hl2 a ha h0⟩)
      have j3 := by_keep i3 (kS (fun b => b ≠ w.heap.size ∧ b ≠ w.heap.size + 1 ∧ b ≠ D) (by simp) (by simp) (by simp)) (fun a ha h0 => ⟨by_off bRd i3 a ha h0, by_bool bEd i3 a ha h0, fun e => hI.off a ha h0 (e ▸ hPD)⟩)
      have HY := Lib.hid hY
      clear hY hkY hBY bY eY bRd bEd i1 i2 i3 hI kS ofD hit
      gi_wp2
      rw [HY.out]
      refine ⟨by simp, .inl ⟨_, _, rfl, run_takeDeferred hDP, ?_⟩⟩
      refine ⟨_, ret_ck2 rfl _ _ w.heap.size (w.heap.size + 1) _ _ rfl rfl bZ rfl eZ, ?_⟩
      rw [HR.out]
      exact ⟨_, rfl, ⟨_, _, _, _, _, _, _, _, _, rfl, j1, j2, j3⟩, AZ⟩
    case stop =>
      rintro D cc pre rest Pv Wd hD hPD hPl hxs hX hK
      obtain ⟨rfl, bZ, eZ, hno, hbel, hge, hsz⟩ := hX
      have hDg : W5.heap.size ≤ D := hge D hPD
      have HR := Lib.hid (show R = none from HE2.out.trans hno)
      clear hxs
      gi_wp2
      refine ⟨by simp, .inl ⟨_, _, rfl, run_takeDeferred hK, ?_⟩⟩
      have kp : ∀ (S : Nat → Prop), ¬ S D → Keep S Wd (Wd.putObj D (.deferred none)) := fun S h => Keep.putObj _ _ _ h
      refine ⟨_, ret_ck2 rfl _ _ w.heap.size (w.heap.size + 1) _ _ rfl rfl ((kp (fun b => b = w.heap.size) (by omega)).heap rfl bZ) rfl ((kp (fun b => b = w.heap.size + 1) (by omega)).boxed eZ rfl).cell, ?_⟩
      rw [HR.out]
      exact ⟨_, rfl, zero_is _, hbel.trans ((kp (fun b => b < w.heap.size) (by omega)).below hbel.size)⟩
end Go.Proofs.YtdbpbfbjebjbeaaDoor.Ck

namespace Go.Proofs.YtdbpbfbjebjbeaaDoor.Ck
open Go.RowKit Go.Shelf Url
attribute [local go_sem] Oper.semAt_some
set_option linter.unusedVariables false

theorem ret_ckt {fn : Func} {p u : Tmp} (h : fn.results = #[.cell p 25, .tmp u]) (tmps : Array Value) (w : World) (B : Nat) (cs : Array Value) (hp : tmps.getD p undef = .pointer (some ⟨B, 0, none⟩)) (hU : CB B cs w) (hs : cs.size = 6) :
    (results fn tmps).run Tryd.prog w = .ok (.tuple #[.agg cs, tmps.getD u undef]) w := by
  rw [results_cell_tmp h, hp]
  simp [asAddr, Result.andThen, run_loadVar_row w B 25 _ cs (0, 0) _ hU Tryd.underlying25 rfl (by rw [size_ck, hs])]

set_option maxRecDepth 100000 in
set_option maxHeartbeats 8000000 in
theorem Parse_any (q : Option Addr) (n c : Nat) (t : List UInt8) (w : World) (hby : By w (.slice q n c) t) (hn : n ≤ 1048576) (hG : Gl w) :
    Calls Tryd.prog 6 #[.slice q n c] w (PkOut (parseC t) w) := by
  have hl := hby.at.1
  obtain ⟨W1, hW1⟩ : ∃ W1, w.alloc (.cells #[.slice none 0 0, .slice none 0 0, .slice none 0 0, .string ⟨#[]⟩, .int .i64 0, .bool false] 25) = W1 := ⟨_, rfl⟩
  have A1 : Below w.heap.size w W1 := hW1 ▸ below_alloc _
  have bR : CB w.heap.size #[.slice none 0 0, .slice none 0 0, .slice none 0 0, .string ⟨#[]⟩, .int .i64 0, .bool false] W1 := hW1 ▸ CB.new w _
  have HW1 := Lib.hid hW1
  have HG := Lib.hid hG
  clear hW1 hG
  by_cases hbig : 4096 < n
  · have HE := Lib.hid (show parseC t = .inl 3 by unfold parseC; rw [if_pos (by omega)])
    have d1 : decide ((4096 : Int) < (n : Int)) = true := by simp; omega
    have z0 := bR.box 0 _ rfl
    have z1 := bR.box 1 _ rfl
    have z2 := bR.box 2 _ rfl
    have z3 := bR.box 3 _ rfl
    have z4 := bR.box 4 _ rfl
    have z5 := bR.box 5 _ rfl
    have f0 := bR.frozen 0
    have f1 := bR.frozen 1
    have f2 := bR.frozen 2
    have f3 := bR.frozen 3
    have f4 := bR.frozen 4
    have f5 := bR.frozen 5
    obtain ⟨Y, hY, bY, hkY, hBY⟩ := bR.put (.slice none 0 0) (.slice none 0 0) (.slice none 0 0) (.string ⟨#[]⟩) (.int .i64 0) (.bool false)
    have AY := A1.trans (hBY _ (Nat.le_refl _))
    have HY := Lib.hid hY
    clear hY hkY hBY bR hby hl hbig hn A1
    go_enter Tryd.func6, Tryd.ntmps6
    go_upto_region 1 with fail
    rw [HW1.out]
    go_wp2
    rw [HY.out]
    refine bodyPost_ret (ret_ckt rfl _ _ w.heap.size _ rfl bY rfl) rfl ?_
    rw [HE.out]
    exact ⟨_, rfl, zero_is _, AY⟩
  have d1 : decide ((4096 : Int) < (n : Int)) = false := by simp; omega
  have con := cookieOf_any q n c t W1 (hby.on A1) hn
  have HP := Lib.hid (show parseC t = (match cookieL t with | none => .inl 2 | some d => if 4096 < (textC d).length then .inl 3 else .inr d) by unfold parseC; rw [if_neg (by omega)]; cases cookieL t <;> rfl)
  have HO := Lib.hid (fun d h => (show Ok d ∧ Small 4096 d from ⟨cookie_ok t d h, by
    obtain ⟨s1, s2, s3, s4⟩ := cookie_small t d h
    exact ⟨by omega, by omega, by omega, by omega⟩⟩))
  generalize parseC t = R at *
  clear hby hl hbig hn
  go_enter Tryd.func6, Tryd.ntmps6
  go_upto_region 1 with fail
  rw [HW1.out]
  go_wp2_with fail
  refine con.mono ?_
  rintro e W2 ⟨v, rfl, hC, hb⟩
  have A2 := A1.trans (hb.mono A1.size)
  replace bR := bR.on hb
  have hs0 : w.heap.size < W2.heap.size := bR.lt
  clear con hb A1 HW1
  cases hck : cookieL t with
  | none =>
    rw [hck] at HP hC
    have HE := Lib.hid (show R = .inl 2 from HP.out)
    simp only [Option.isSome_none]
    obtain ⟨q1, n1, c1, q2, n2, c2, q3, n3, c3, rfl, h1, h2, h3⟩ := hC
    obtain ⟨W3, hW3⟩ : ∃ Z, W2.alloc (.cells #[.slice q1 n1 c1, .slice q2 n2 c2, .slice q3 n3 c3, .string ⟨#[]⟩, .int .i64 0, .bool false] 25) = Z := ⟨_, rfl⟩
    have hbl : Below W2.heap.size W2 W3 := hW3 ▸ below_alloc _
    have HW3 := Lib.hid hW3
    clear hW3
    have A3 := A2.trans (hbl.mono A2.size)
    replace bR := bR.on hbl
    have z0 := bR.box 0 _ rfl
    have z1 := bR.box 1 _ rfl
    have z2 := bR.box 2 _ rfl
    have z3 := bR.box 3 _ rfl
    have z4 := bR.box 4 _ rfl
    have z5 := bR.box 5 _ rfl
    have f0 := bR.frozen 0
    have f1 := bR.frozen 1
    have f2 := bR.frozen 2
    have f3 := bR.frozen 3
    have f4 := bR.frozen 4
    have f5 := bR.frozen 5
    obtain ⟨Y, hY, bY, hkY, hBY⟩ := bR.put (.slice none 0 0) (.slice none 0 0) (.slice none 0 0) (.string ⟨#[]⟩) (.int .i64 0) (.bool false)
    have AY := A3.trans (hBY _ (Nat.le_refl _))
    have HY := Lib.hid hY
    clear hY hkY hBY bR hck HP HO A2 A3 hbl h1 h2 h3 HG
    simp only [Option.getD_none, zeroC]
    go_upto_region 4 with fail
    rw [HW3.out]
    go_wp2
    rw [HY.out]
    refine bodyPost_ret (ret_ckt rfl _ _ w.heap.size _ rfl bY rfl) rfl ?_
    rw [HE.out]
    exact ⟨_, rfl, zero_is _, AY⟩
  | some d =>
    rw [hck] at HP hC
    obtain ⟨hok, hsm⟩ := HO.out d hck
    simp only [Option.isSome_some]
    obtain ⟨q1, n1, c1, q2, n2, c2, q3, n3, c3, rfl, h1, h2, h3⟩ := hC
    simp only [Option.getD_some] at h1 h2 h3 ⊢
    have hv : CkIs W2 (.agg #[.slice q1 n1 c1, .slice q2 n2 c2, .slice q3 n3 c3, .string ⟨d.dom.toArray⟩, .int .i64 d.age, .bool d.secure]) d := ⟨_, _, _, _, _, _, _, _, _, rfl, h1, h2, h3⟩
    have X3 := CX.new hv
    have hbl : Below W2.heap.size W2 (W2.alloc (.cells #[.slice q1 n1 c1, .slice q2 n2 c2, .slice q3 n3 c3, .string ⟨d.dom.toArray⟩, .int .i64 d.age, .bool d.secure] 25)) := below_alloc _
    obtain ⟨W3, hW3⟩ : ∃ Z, W2.alloc (.cells #[.slice q1 n1 c1, .slice q2 n2 c2, .slice q3 n3 c3, .string ⟨d.dom.toArray⟩, .int .i64 d.age, .bool d.secure] 25) = Z := ⟨_, rfl⟩
    rw [hW3] at X3 hbl
    have A3 := A2.trans (hbl.mono A2.size)
    replace bR := bR.on hbl
    have con := Text_any _ d W3 X3.2 hok hsm (HG.out.on A3)
    have x0 := X3.1.box 0 _ rfl
    have x1 := X3.1.box 1 _ rfl
    have x2 := X3.1.box 2 _ rfl
    have x3 := X3.1.box 3 _ rfl
    have x4 := X3.1.box 4 _ rfl
    have x5 := X3.1.box 5 _ rfl
    have HW3 := Lib.hid hW3
    clear hW3 hck HO hv h1 h2 h3 hok hsm hbl A2 HG
    go_wp2_with fail
    rw [HW3.out]
    go_wp2_with fail
    refine con.mono ?_
    rintro e W4 ⟨qt, nt, ct, rfl, ht, hb⟩
    have htl := ht.at.1
    have A4 := A3.trans (hb.mono A3.size)
    replace bR := bR.on hb
    have X4 := X3.on hb
    clear con hb A3 HW3 x0 x1 x2 x3 x4 x5
    have z0 := bR.box 0 _ rfl
    have z1 := bR.box 1 _ rfl
    have z2 := bR.box 2 _ rfl
    have z3 := bR.box 3 _ rfl
    have z4 := bR.box 4 _ rfl
    have z5 := bR.box 5 _ rfl
    have f0 := bR.frozen 0
    have f1 := bR.frozen 1
    have f2 := bR.frozen 2
    have f3 := bR.frozen 3
    have f4 := bR.frozen 4
    have f5 := bR.frozen 5
    by_cases hlong : 4096 < nt
    · have HE := Lib.hid (show R = .inl 3 from HP.out.trans (if_pos (by omega)))
      have d2 : decide ((4096 : Int) < (nt : Int)) = true := by simp; omega
      obtain ⟨Y, hY, bY, hkY, hBY⟩ := bR.put (.slice none 0 0) (.slice none 0 0) (.slice none 0 0) (.string ⟨#[]⟩) (.int .i64 0) (.bool false)
      have AY := A4.trans (hBY _ (Nat.le_refl _))
      have HY := Lib.hid hY
      clear hY hkY hBY bR HP hlong htl ht X3 X4 A4
      go_wp2
      rw [HY.out]
      refine bodyPost_ret (ret_ckt rfl _ _ w.heap.size _ rfl bY rfl) rfl ?_
      rw [HE.out]
      exact ⟨_, rfl, zero_is _, AY⟩
    · have HE := Lib.hid (show R = .inr d from HP.out.trans (if_neg (by omega)))
      have d2 : decide ((4096 : Int) < (nt : Int)) = false := by simp; omega
      have x0 := X4.1.box 0 _ rfl
      have x1 := X4.1.box 1 _ rfl
      have x2 := X4.1.box 2 _ rfl
      have x3 := X4.1.box 3 _ rfl
      have x4 := X4.1.box 4 _ rfl
      have x5 := X4.1.box 5 _ rfl
      obtain ⟨Y, hY, bY, hkY, hBY⟩ := bR.put (.slice q1 n1 c1) (.slice q2 n2 c2) (.slice q3 n3 c3) (.string ⟨d.dom.toArray⟩) (.int .i64 d.age) (.bool d.secure)
      have AY := A4.trans (hBY _ (Nat.le_refl _))
      obtain ⟨i1, i2, i3⟩ := X4.parts
      have j1 := by_keep i1 (hkY (fun b => b ≠ w.heap.size) (by simp)) (by_off bR i1)
      have j2 := by_keep i2 (hkY (fun b => b ≠ w.heap.size) (by simp)) (by_off bR i2)
      have j3 := by_keep i3 (hkY (fun b => b ≠ w.heap.size) (by simp)) (by_off bR i3)
      have HY := Lib.hid hY
      clear hY hkY hBY bR HP hlong htl ht X3 X4 A4 i1 i2 i3
      go_wp2
      rw [HY.out]
      refine bodyPost_ret (ret_ckt rfl _ _ w.heap.size _ rfl bY rfl) rfl ?_
      rw [HE.out]
      exact ⟨_, rfl, ⟨_, _, _, _, _, _, _, _, _, rfl, j1, j2, j3⟩, AY⟩

/-! ### the contracts that the laws name -/
theorem url_lens (u : U) (h : (textU u).length ≤ 4096) : u.host.length ≤ 4096 ∧ u.path.length ≤ 4096 := by
  have e : (textU u).length = (u.scheme ++ sepS ++ u.host ++ portT u).length + u.path.length + (queryT u).length + (fragT u).length := by
    rw [text_server]
    unfold serverT
    simp only [List.length_append]
  simp only [List.length_append] at e
  omega
theorem May_any (v a : Value) (c : Ck) (u : U) (w : World) (h : CkIs w v c) (hs : Small 4096 c) (ha : UrlIn w a u) (hl : (textU u).length ≤ 4096) (hG : Gl w) :
    Calls Tryd.prog 9 #[v, a] w fun e w' => e = .returned (.int .i64 (if mayB c u.host u.scheme = true then 0 else 17)) ∧ Below w.heap.size w w' :=
  May_by v a c u w h (by have := hs.2.2.2; omega) ha (by have := (url_lens u hl).1; omega)
theorem Home_any (v a : Value) (c : Ck) (u : U) (w : World) (h : CkIs w v c) (hs : Small 4096 c) (ha : UrlIn w a u) (hk : Url.Ok u) (hl : (textU u).length ≤ 4096) (hG : Gl w) :
    Calls Tryd.prog 11 #[v, a] w (BysOut (homeL c u.path) w) :=
  Home_by v a c u w h ha (by have := hs.2.2.1; omega) (by have := (url_lens u hl).2; omega)
theorem Meant_any (v a b : Value) (c : Ck) (u x : U) (w : World) (h : CkIs w v c) (hs : Small 4096 c) (ha : UrlIn w a u) (hu : Url.Ok u) (hl : (textU u).length ≤ 4096) (hb : UrlIn w b x) (hx : Url.Ok x) (hl2 : (textU x).length ≤ 4096) (hG : Gl w) :
    Calls Tryd.prog 10 #[v, a, b] w fun e w' => e = .returned (.bool (meantB c u.host u.path x.host x.path x.scheme)) ∧ Below w.heap.size w w' :=
  Meant_by v a b c u x w h ⟨by have := hs.2.2.2; omega, by have := hs.2.2.1; omega⟩ ha (by have := (url_lens u hl).2; omega) hb (by have := (url_lens x hl2).1; omega)
end Go.Proofs.YtdbpbfbjebjbeaaDoor.Ck

namespace Go.Proofs.YtdbpbfbjebjbeaaDoor.Ck
open Go.RowKit Go.Shelf Url
attribute [local go_sem] Oper.semAt_some
set_option linter.unusedVariables false

theorem canonOk : CanonOk := fun q n c t w h1 h2 h3 => canonOf_any q n c t w h1 h2 h3
theorem strs_eqC (l m : List UInt8) : ((⟨l.toArray⟩ : ByteArray).toList == (⟨m.toArray⟩ : ByteArray).toList) = decide (l = m) := by
  rw [Lib.toList_data, Lib.toList_data, Bool.eq_iff_iff, beq_iff_eq, decide_eq_true_iff]
theorem parse_err (t : List UInt8) (e : Int) (hl : t.length ≤ 1000) (h : parseC t = .inl e) : e = 2 := parse_form t e hl h
/-- What url.Parse tells, in one form. -/
def ParseIs (t : List UInt8) (w : World) (e : Ending) (w' : World) : Prop := ∃ q0 n0 c0 q1 n1 c1 p q3 n3 c3 q4 n4 c4 q5 n5 c5 hq hf m,
  e = .returned (.tuple #[.agg #[.slice q0 n0 c0, .slice q1 n1 c1, .int .i64 p, .slice q3 n3 c3, .slice q4 n4 c4, .slice q5 n5 c5, .bool hq, .bool hf], .int .i64 m]) ∧
  (m ≠ 0 ∨ ∃ u : U, m = 0 ∧ parseU t = .inr u ∧ (u.port : Int) = p ∧ u.hq = hq ∧ u.hf = hf ∧ UrlIn w' (.agg #[.slice q0 n0 c0, .slice q1 n1 c1, .int .i64 p, .slice q3 n3 c3, .slice q4 n4 c4, .slice q5 n5 c5, .bool hq, .bool hf]) u) ∧ Below w.heap.size w w'
theorem Parse_is (q : Option Addr) (n c : Nat) (t : List UInt8) (w : World) (hby : By w (.slice q n c) t) (hn : n ≤ 400) (hG : Gl w) :
    Calls Tryd.prog 8 #[.slice q n c] w fun e w' => ParseIs t w e w' := by
  have hl := hby.at.1
  have hp := parse_canon t (by omega)
  refine (Parse_of canonOk q n c t w hby (by omega) hG (fun u hu => by have := Url.text_len t u (hp.trans hu); omega)).mono ?_
  intro e w' h
  cases hc : canonU t with
  | inl m =>
    rw [hc] at h
    obtain ⟨hm, rfl, hb⟩ := h
    exact ⟨_, _, _, _, _, _, _, _, _, _, _, _, _, _, _, _, _, _, m, rfl, .inl hm, hb⟩
  | inr u =>
    rw [hc] at h
    obtain ⟨v, rfl, hin, hb⟩ := h
    obtain ⟨q0, n0, c0, q1, n1, c1, q3, n3, c3, q4, n4, c4, q5, n5, c5, rfl, i⟩ := id hin
    exact ⟨_, _, _, _, _, _, _, _, _, _, _, _, _, _, _, _, _, _, 0, rfl, .inr ⟨u, rfl, hp.trans hc, rfl, rfl, rfl, hin⟩, hb⟩

def liveT : List UInt8 := [97, 61, 49, 59, 32, 80, 97, 116, 104, 61, 47, 120, 59, 32, 115, 101, 99, 117, 114, 101]
def liveS : List UInt8 := [97, 61, 49, 59, 32, 80, 97, 116, 104, 61, 47, 120, 59, 32, 83, 101, 99, 117, 114, 101]
def liveB : Bool := match parseC liveT with
  | .inl _ => false
  | .inr c => decide (textC c = liveS)
theorem live_b : liveB = true := by decide +kernel
theorem live_ck : ∃ c, parseC liveT = .inr c ∧ textC c = liveS := by
  have h := live_b
  unfold liveB at h
  split at h
  · cases h
  · rename_i c hc
    exact ⟨c, hc, of_decide_eq_true h⟩
theorem small_le {M K : Nat} {c : Ck} (h : Small M c) (hk : M ≤ K) : Small K c := ⟨by have := h.1; omega, by have := h.2.1; omega, by have := h.2.2.1; omega, by have := h.2.2.2; omega⟩

set_option maxRecDepth 100000 in
set_option maxHeartbeats 8000000 in
theorem lives_any (w : World) (hG : Gl w) : Calls Tryd.prog 5 #[] w fun e w' => e = .returned (.bool true) ∧ Below w.heap.size w w' := by
  have kc := fun (w : World) (C : Array Value) (n c : Nat) => Lib.run_convert_bytes_const (P := Tryd.prog) w 22 5 C n c Tryd.underlying22 Tryd.underlying5
  obtain ⟨c, hc, hT⟩ := live_ck
  have HO := Lib.hid (parse_ok liveT c hc)
  have HS := Lib.hid (small_le (parse_small liveT c hc) (show liveT.length ≤ 4096 by decide))
  obtain ⟨X0, hX0⟩ : ∃ Z, w.alloc (.cells #[.int .u8 97, .int .u8 61, .int .u8 49, .int .u8 59, .int .u8 32, .int .u8 80, .int .u8 97, .int .u8 116, .int .u8 104, .int .u8 61, .int .u8 47, .int .u8 120, .int .u8 59, .int .u8 32, .int .u8 115, .int .u8 101, .int .u8 99, .int .u8 117, .int .u8 114, .int .u8 101] 5 (20, 21)) = Z := ⟨_, rfl⟩
  have B_0 : Below w.heap.size w X0 := by rw [← hX0]; exact below_alloc _
  have hby : By X0 (.slice (some ⟨w.heap.size, 0, none⟩) 20 20) liveT := by rw [← hX0]; exact by_lit w #[.int .u8 97, .int .u8 61, .int .u8 49, .int .u8 59, .int .u8 32, .int .u8 80, .int .u8 97, .int .u8 116, .int .u8 104, .int .u8 61, .int .u8 47, .int .u8 120, .int .u8 59, .int .u8 32, .int .u8 115, .int .u8 101, .int .u8 99, .int .u8 117, .int .u8 114, .int .u8 101] liveT (20, 21) 20 rfl rfl (by decide)
  have con := Parse_any (some ⟨w.heap.size, 0, none⟩) 20 20 liveT X0 hby (by omega) (hG.on B_0)
  rw [hc] at con
  have HX0 := Lib.hid hX0
  have HG := Lib.hid hG
  have HT := Lib.hid hT
  have e1 := strs_eqC liveS liveS
  rw [decide_eq_true rfl] at e1
  unfold liveS at e1
  clear hX0 hby hG hc hT
  go_enter Tryd.func5, Tryd.ntmps5
  go_wp2_with fail
  rw [HX0.out]
  refine con.mono ?_
  rintro e X1 ⟨v, rfl, hC, hb⟩
  simp only [ckE, ckV] at hC ⊢
  have B_1 := B_0.trans (hb.mono B_0.size)
  clear con hb B_0 HX0 kc
  obtain ⟨q1, n1, c1, q2, n2, c2, q3, n3, c3, rfl, h1, h2, h3⟩ := id hC
  have hx : Below X1.heap.size X1 (X1.alloc (.cells #[.slice q1 n1 c1, .slice q2 n2 c2, .slice q3 n3 c3, .string ⟨c.dom.toArray⟩, .int .i64 c.age, .bool c.secure] 25)) := below_alloc _
  have K := CX.new hC
  have B_2 := B_1.trans (hx.mono B_1.size)
  have con := Text_any _ c _ K.2 HO.out HS.out (HG.out.on B_2)
  rw [HT.out] at con
  have r0 := K.1.box 0 _ rfl
  have r1 := K.1.box 1 _ rfl
  have r2 := K.1.box 2 _ rfl
  have r3 := K.1.box 3 _ rfl
  have r4 := K.1.box 4 _ rfl
  have r5 := K.1.box 5 _ rfl
  clear hx h1 h2 h3 hC B_1 K
  go_wp2_with fail
  refine con.mono ?_
  rintro e X3 ⟨qt, nt, ct, rfl, ht, hb⟩
  have B_3 := B_2.trans (hb.mono B_2.size)
  have hcv := conv_by ht
  unfold liveS at hcv
  clear con hb B_2 r0 r1 r2 r3 r4 r5 ht
  go_wp2
  go_ret
  exact ⟨rfl, B_3⟩
end Go.Proofs.YtdbpbfbjebjbeaaDoor.Ck

namespace Go.Proofs.YtdbpbfbjebjbeaaDoor.Ck
open Go.RowKit Go.Shelf Url
attribute [local go_sem] Oper.semAt_some
set_option linter.unusedVariables false

theorem mk_app (a b : List UInt8) : (⟨a.toArray⟩ : ByteArray) ++ ⟨b.toArray⟩ = ⟨(a ++ b).toArray⟩ := by
  apply ByteArray.ext; simp
theorem name_snoc (t : List UInt8) (k : Nat) (h : k < t.length) : nameL (t.take (k + 1)) = nameL (t.take k) ++ [nameB (t.getD k 0)] := by
  unfold nameL
  rw [List.take_add_one, List.map_append, List.getElem?_eq_getElem h, List.getD, List.getElem?_eq_getElem h]
  rfl

theorem byV_one (b : UInt8) : (#[.int .u8 (97 + (b.toNat : Int) % 26)] : Array Value).toList = byV [nameB b] := by
  have h := name_num b
  simp only [byV, Lib.numsL, List.map_cons, List.map_nil, h]
  simp
set_option maxRecDepth 100000 in
set_option maxHeartbeats 8000000 in
theorem name_any (q : Option Addr) (n c : Nat) (t : List UInt8) (w : World) (hby : By w (.slice q n c) t) (hn : n ≤ 20) :
    Calls Tryd.prog 12 #[.slice q n c] w fun e w' => e = .returned (.string ⟨(nameL t).toArray⟩) ∧ Below w.heap.size w w' := by
  have hl := hby.at.1
  have H1 := Lib.hid hby
  clear hby
  go_enter Tryd.func12, Tryd.ntmps12
  go_wp2
  go_loopw [3, 8] (fun s i wr => ∃ (k : Nat) (x : List UInt8), k ≤ n ∧ i = .int .i64 k ∧ s = .string ⟨x.toArray⟩ ∧ Hid (x = nameL (t.take k)) ∧ x.length = k ∧ Below w.heap.size w wr) (fun _ i _ => n - (intOf i).toNat)
  case atStart => exact ⟨0, [], Nat.zero_le _, rfl, rfl, Lib.hid rfl, rfl, Below.refl _ _⟩
  case round =>
    obtain ⟨k, x, hk, rfl, rfl, HK, hxl, hB⟩ := hrel
    have hbs := hB.size
    by_cases hlt : k < n
    · obtain ⟨b1, o1, rfl, hc1⟩ := (H1.out.on hB).at.2.2.2.2.at (by omega)
      have c1 := hc1 k hlt
      rw [numsL_getD _ _ (by omega)] at c1
      have HN := Lib.hid (show x ++ [nameB (t.getD k 0)] = nameL (t.take (k + 1)) by rw [name_snoc t k (by omega), HK.out])
      have hnum := name_num (t.getD k 0)
      have hb256 : (t.getD k 0).toNat < 256 := UInt8.toNat_lt _
      clear hc1 HK
      generalize t.getD k 0 = b at *
      have hbl : By (wr.alloc (.cells #[.int .u8 (97 + (b.toNat : Int) % 26)] 5)) (.slice (some ⟨wr.heap.size, 0, none⟩) 1 1) [nameB b] := by_lit wr #[.int .u8 (97 + (b.toNat : Int) % 26)] [nameB b] (0, 0) 1 (byV_one b) rfl (by decide)
      have hcv := conv_by hbl
      clear hbl hnum
      go_wp2_with omega
      go_roundw
      case rel => exact ⟨k + 1, x ++ [nameB b], by omega, by go_num, congrArg Value.string (mk_app x [nameB b]), HN, by simp [hxl], hB.alloc hbs _⟩
      case measure => simp [intOf]; omega
    · obtain rfl : k = n := by omega
      have HE := Lib.hid (show x = nameL t by rw [HK.out, List.take_of_length_le (by omega)])
      clear H1 HK
      go_wp2_with omega
      go_ret
      rw [← HE.out]
      exact ⟨rfl, hB⟩

/-- url.Parse at a URL's text. -/
theorem Parse_yes (q : Option Addr) (n c : Nat) (t : List UInt8) (u : U) (w : World) (hby : By w (.slice q n c) t) (hn : n ≤ 400) (hG : Gl w) (hp : parseU t = .inr u) :
    Calls Tryd.prog 8 #[.slice q n c] w fun e w' => ∃ v, e = .returned (.tuple #[v, .int .i64 0]) ∧ UrlIn w' v u ∧ Below w.heap.size w w' := by
  have hl := hby.at.1
  have hc := parse_canon t (by omega)
  have con := Parse_of canonOk q n c t w hby (by omega) hG (fun u hu => by have := Url.text_len t u (hc.trans hu); omega)
  rw [← hc, hp] at con
  exact con
theorem root_ok : PathOk [47] := to_ok [] [] false (fun b h => by cases h) (fun b h => by cases h)
theorem host_len (h : UInt8) (path : List UInt8) (hn : path.length ≤ 4000) : (textU (hostU h path)).length ≤ 4096 := by rw [host_text]; simp; omega
/-- Is a cookie of a path meant for a URL? -/
theorem Meant_path (P M : List UInt8) (s : Bool) (h2 : UInt8) (same : Bool) (hsame : decide ((104 : UInt8) = h2) = same) (hh : Host.parseE [h2] = 0) (hl : Ref.lowL [h2] = [h2]) (hP : Lets P) (hM : Lets M) (hp : P.length ≤ 20) (hm : M.length ≤ 20) (v a b : Value) (w : World) (h : CkIs w v (pathC P)) (ha : UrlIn w a (hostU 104 [47])) (hb : UrlIn w b (hostU h2 (toL P M s))) (hG : Gl w) :
    Calls Tryd.prog 10 #[v, a, b] w fun e w' => e = .returned (.bool (same && (s || M.isEmpty || P.isEmpty))) ∧ Below w.heap.size w w' := by
  have ht : (toL P M s).length ≤ 4000 := by unfold toL; cases s <;> simp <;> omega
  have con := Meant_any v a b (pathC P) _ _ w h (path_small P (by omega)) ha (host_ok 104 [47] (by decide) (by decide) root_ok) (host_len 104 [47] (by decide)) hb (host_ok h2 _ hh hl (to_ok P M s hP hM)) (host_len h2 _ ht) hG
  rw [path_meant P M s 104 h2 [47] hP hM, hsame] at con
  exact con
end Go.Proofs.YtdbpbfbjebjbeaaDoor.Ck
