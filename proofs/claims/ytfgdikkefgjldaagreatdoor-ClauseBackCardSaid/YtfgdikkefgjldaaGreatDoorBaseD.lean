/- The texts that these laws rest on, put together, part 4. Conditions: as each says. -/
import Derived.Test.YtfgdikkefgjldaaGreatDoorBaseC

namespace Go.Proofs.YtfgdikkefgjldaaGreatDoor.Url
open Go.RowKit Go.Shelf
attribute [local go_sem] Oper.semAt_some

theorem nbzL : ∀ (j : Nat) (x : Value), zeroU[j]? = some x → ∀ z : Int, x ≠ .int .u8 z := nb8 ⟨_, _, _, rfl⟩ ⟨_, _, _, rfl⟩ ⟨_, _, _, rfl⟩ ⟨_, _, _, rfl⟩ ⟨_, _, _, rfl⟩
/-- A slice of bytes outlives what is written where a URL's cells are. -/
theorem By.awayL {B : Nat} {cs : Array Value} {X Y : World} {v : Value} {l : List UInt8} (h : By X v l) (hU : UB B cs X) (hcs : ∀ (j : Nat) (x : Value), cs[j]? = some x → ∀ z : Int, x ≠ .int .u8 z) (hk : ∀ S : Nat → Prop, ¬ S B → Keep S X Y) : By Y v l := by
  obtain ⟨q, c, rfl, h2, h3, h4, h5⟩ := h
  refine ⟨q, c, rfl, h2, h3, h4, fun h0 => ?_⟩
  obtain ⟨b, o, he, hc⟩ := h5 h0
  refine ⟨b, o, he, fun j hj => ?_⟩
  have hne : b ≠ B := fun e => by
    subst e
    have h1 := hc j hj
    simp only [World.cell?, show X.heap[b]? = _ from hU] at h1
    exact hcs _ _ h1 _ rfl
  exact (World.cell?_of_block ((hk (fun k => k ≠ B) (fun h => h rfl)).block b (World.block_lt_of_cell? X _ (hc j hj)) hne)).trans (hc j hj)
/-- canonOf's contract. -/
def CanonOk : Prop := ∀ (q : Option Addr) (n c : Nat) (t : List UInt8) (w : World), By w (.slice q n c) t → n ≤ 4096 → Gl w → Calls Tryz.prog 87 #[.slice q n c] w fun e w' => CanonOut (canonU t) w e w'

set_option maxRecDepth 100000 in
set_option maxHeartbeats 8000000 in
theorem Parse_of (hcan : CanonOk) (q : Option Addr) (n c : Nat) (t : List UInt8) (w : World) (hby : By w (.slice q n c) t) (hn : n ≤ 4096) (hG : Gl w) (hT : ∀ u, canonU t = .inr u → (textU u).length ≤ 4096) :
    Calls Tryz.prog 61 #[.slice q n c] w fun e w' => CanonOut (canonU t) w e w' := by
  have d0 : decide ((4096 : Int) < (n : Int)) = false := by simp; omega
  obtain ⟨X0, hX0⟩ : ∃ X0, w.alloc (.cells #[.slice none 0 0, .slice none 0 0, .int .i64 0, .slice none 0 0, .slice none 0 0, .slice none 0 0, .bool false, .bool false] 99) = X0 := ⟨_, rfl⟩
  have B_0 : Below w.heap.size w X0 := by rw [← hX0]; exact (Below.refl _ w).alloc (Nat.le_refl _) _
  have U_0 : UB w.heap.size zeroU X0 := by rw [← hX0]; exact UB.new w zeroU
  have con := hcan q n c t X0 (hby.on B_0) hn (hG.on B_0)
  have hok : ∀ u, canonU t = .inr u → Ok u := fun u h => parse_ok t u (by rw [parse_canon t (by rw [hby.at.1]; exact hn)]; exact h)
  have HX0 := Lib.hid hX0
  have HG := Lib.hid hG
  clear hX0 hby hG
  cases hc : canonU t with
  | inl m =>
    rw [hc] at con
    clear hc hok hT
    go_enter Tryz.func61, Tryz.ntmps61
    go_wp2_with fail
    rw [HX0.out]
    refine con.mono ?_
    rintro e X1 ⟨hm, rfl, hb⟩
    have U_1 := U_0.on hb
    have B_1 := B_0.trans (hb.mono B_0.size)
    clear con hb U_0 B_0 HX0
    have e1 : ((m : Int) != 0) = true := by rw [bne_iff_ne]; exact hm
    have HM := Lib.hid hm
    clear hm
    unfold zeroU
    have zc : ∀ o, UB w.heap.size zeroU (X1.alloc o) := fun o => U_1.on ((Below.refl _ _).alloc (Nat.le_refl _) _)
    have zc0 := fun o => (zc o).box 0 _ rfl
    have zc1 := fun o => (zc o).box 1 _ rfl
    have zc2 := fun o => (zc o).box 2 _ rfl
    have zc3 := fun o => (zc o).box 3 _ rfl
    have zc4 := fun o => (zc o).box 4 _ rfl
    have zc5 := fun o => (zc o).box 5 _ rfl
    have zc6 := fun o => (zc o).box 6 _ rfl
    have zc7 := fun o => (zc o).box 7 _ rfl
    have zf0 := fun o => (zc o).frozen 0
    have zf1 := fun o => (zc o).frozen 1
    have zf2 := fun o => (zc o).frozen 2
    have zf3 := fun o => (zc o).frozen 3
    have zf4 := fun o => (zc o).frozen 4
    have zf5 := fun o => (zc o).frozen 5
    have zf6 := fun o => (zc o).frozen 6
    have zf7 := fun o => (zc o).frozen 7
    clear zc
    go_wp2
    have U_2 := U_1.on ((Below.refl X1.heap.size X1).alloc (Nat.le_refl _) (.cells #[.slice none 0 0, .slice none 0 0, .int .i64 0, .slice none 0 0, .slice none 0 0, .slice none 0 0, .bool false, .bool false] 99))
    have B_2 := B_1.alloc B_1.size (.cells #[.slice none 0 0, .slice none 0 0, .int .i64 0, .slice none 0 0, .slice none 0 0, .slice none 0 0, .bool false, .bool false] 99)
    obtain ⟨Y, hY, hU, hkY, hbY⟩ := UB.put (show UB w.heap.size #[.slice none 0 0, .slice none 0 0, .int .i64 0, .slice none 0 0, .slice none 0 0, .slice none 0 0, .bool false, .bool false] _ from U_2) (.slice none 0 0) (.slice none 0 0) (.int .i64 0) (.slice none 0 0) (.slice none 0 0) (.slice none 0 0) (.bool false) (.bool false)
    rw [hY]
    (try simp only [Exit.inBlock, Exit.then])
    refine bodyPost_ret (ret_url2 rfl _ _ w.heap.size _ rfl hU rfl) rfl ?_
    exact ⟨HM.out, rfl, B_2.trans (hbY _ (Nat.le_refl _))⟩
  | inr u =>
    rw [hc] at con
    have HO := Lib.hid (hok u hc)
    have HT := Lib.hid (hT u hc)
    clear hc hok hT
    go_enter Tryz.func61, Tryz.ntmps61
    go_wp2_with fail
    rw [HX0.out]
    refine con.mono ?_
    rintro e X1 ⟨v, rfl, hin, hb⟩
    have U_1 := U_0.on hb
    have B_1 := B_0.trans (hb.mono B_0.size)
    clear con hb U_0 B_0 HX0
    obtain ⟨q0, n0, c0, q1, n1, c1, q3, n3, c3, q4, n4, c4, q5, n5, c5, rfl, i0, i1, i3, i4, i5⟩ := id hin
    obtain ⟨X2, hX2⟩ : ∃ X2, X1.alloc (.cells #[.slice q0 n0 c0, .slice q1 n1 c1, .int .i64 u.port, .slice q3 n3 c3, .slice q4 n4 c4, .slice q5 n5 c5, .bool u.hq, .bool u.hf] 99) = X2 := ⟨_, rfl⟩
    have hb : Below X1.heap.size X1 X2 := by rw [← hX2]; exact (Below.refl _ _).alloc (Nat.le_refl _) _
    obtain ⟨b4, hb4⟩ : ∃ b, X1.heap.size = b := ⟨_, rfl⟩
    have W_2 : UB b4 #[.slice q0 n0 c0, .slice q1 n1 c1, .int .i64 u.port, .slice q3 n3 c3, .slice q4 n4 c4, .slice q5 n5 c5, .bool u.hq, .bool u.hf] X2 := by rw [← hX2, ← hb4]; exact UB.new X1 _
    have hne : ¬ w.heap.size = b4 := by have := U_1.lt; omega
    have hne' : ¬ b4 = w.heap.size := fun h => hne h.symm
    have U_2 := U_1.on hb
    have B_2 := B_1.trans (hb.mono B_1.size)
    have HX2 := Lib.hid hX2
    have HB4 := Lib.hid hb4
    have con := Text_any u _ X2 (hin.on hb) HO.out (HG.out.on B_2) (by have := HT.out; omega)
    have j0 := i0.on hb
    have j1 := i1.on hb
    have j3 := i3.on hb
    have j4 := i4.on hb
    have j5 := i5.on hb
    obtain ⟨L, hL⟩ : ∃ L, (textU u).length = L := ⟨_, rfl⟩
    have d1 : decide ((4096 : Int) < (L : Int)) = false := by have := HT.out; simp; omega
    rw [hL] at con
    clear hX2 hb4 U_1 B_1 hin i0 i1 i3 i4 i5 hb hL
    go_wp2_with fail
    rw [HB4.out, HX2.out]
    refine con.mono ?_
    rintro e X3 ⟨v3, rfl, hr, hb⟩
    obtain ⟨qt, ct, rfl, _, _, _, _, _⟩ := row_open hr
    have U_3 := U_2.on hb
    have W_3 := W_2.on hb
    have B_3 := B_2.trans (hb.mono B_2.size)
    have k0 := j0.on hb
    have k1 := j1.on hb
    have k3 := j3.on hb
    have k4 := j4.on hb
    have k5 := j5.on hb
    clear con hr hb U_2 W_2 B_2 j0 j1 j3 j4 j5 HX2 HB4
    have yb := W_3.box
    have yc0 := yb 0 _ rfl
    have yf0 := W_3.frozen 0
    have yc1 := yb 1 _ rfl
    have yf1 := W_3.frozen 1
    have yc2 := yb 2 _ rfl
    have yf2 := W_3.frozen 2
    have yc3 := yb 3 _ rfl
    have yf3 := W_3.frozen 3
    have yc4 := yb 4 _ rfl
    have yf4 := W_3.frozen 4
    have yc5 := yb 5 _ rfl
    have yf5 := W_3.frozen 5
    have yc6 := yb 6 _ rfl
    have yf6 := W_3.frozen 6
    have yc7 := yb 7 _ rfl
    have yf7 := W_3.frozen 7
    clear yb
    have zb := U_3.box
    have zc0 := zb 0 _ rfl
    have zf0 := U_3.frozen 0
    have zc1 := zb 1 _ rfl
    have zf1 := U_3.frozen 1
    have zc2 := zb 2 _ rfl
    have zf2 := U_3.frozen 2
    have zc3 := zb 3 _ rfl
    have zf3 := U_3.frozen 3
    have zc4 := zb 4 _ rfl
    have zf4 := U_3.frozen 4
    have zc5 := zb 5 _ rfl
    have zf5 := U_3.frozen 5
    have zc6 := zb 6 _ rfl
    have zf6 := U_3.frozen 6
    have zc7 := zb 7 _ rfl
    have zf7 := U_3.frozen 7
    clear zb
    go_wp2
    obtain ⟨Y, hY, hU, hkY, hbY⟩ := UB.put (show UB w.heap.size #[.slice none 0 0, .slice none 0 0, .int .i64 0, .slice none 0 0, .slice none 0 0, .slice none 0 0, .bool false, .bool false] _ from U_3) (.slice q0 n0 c0) (.slice q1 n1 c1) (.int .i64 u.port) (.slice q3 n3 c3) (.slice q4 n4 c4) (.slice q5 n5 c5) (.bool u.hq) (.bool u.hf)
    rw [hY]
    (try simp only [Exit.inBlock, Exit.then])
    refine bodyPost_ret (ret_url2 rfl _ _ w.heap.size _ rfl hU rfl) rfl ?_
    exact ⟨_, rfl, ⟨q0, n0, c0, q1, n1, c1, q3, n3, c3, q4, n4, c4, q5, n5, c5, rfl, k0.awayL U_3 nbzL hkY, k1.awayL U_3 nbzL hkY, k3.awayL U_3 nbzL hkY, k4.awayL U_3 nbzL hkY, k5.awayL U_3 nbzL hkY⟩, B_3.trans (hbY _ (Nat.le_refl _))⟩

end Go.Proofs.YtfgdikkefgjldaaGreatDoor.Url

namespace Go.Proofs.YtfgdikkefgjldaaGreatDoor.Org
open Go.RowKit Go.Shelf Url
attribute [local go_sem] Oper.semAt_some

theorem canonOk : CanonOk := fun q n c t w h1 h2 h3 => canonOf_any q n c t w h1 h2 h3
end Go.Proofs.YtfgdikkefgjldaaGreatDoor.Org

namespace Go.Proofs.YtfgdikkefgjldaaGreatDoor.Org
open Go.RowKit Go.Shelf Url
attribute [local go_sem] Oper.semAt_some

end Go.Proofs.YtfgdikkefgjldaaGreatDoor.Org

namespace Go.Proofs.YtfgdikkefgjldaaGreatDoor.Org
open Go.RowKit Go.Shelf Url
attribute [local go_sem] Oper.semAt_some
set_option linter.unusedVariables false

end Go.Proofs.YtfgdikkefgjldaaGreatDoor.Org

namespace Go.Proofs.YtfgdikkefgjldaaGreatDoor.Org
open Go.RowKit Go.Shelf Url
attribute [local go_sem] Oper.semAt_some

theorem trim_eq {q : Option Addr} {n c : Nat} {t : List UInt8} {w : World} (hby : By w (.slice q n c) t) (h : Lib.hasPrefix t closedS = true) :
    7 ≤ n ∧ Lib.trimPrefixV q n c (Lib.numsL t) (Lib.numsL closedS) = .slice (subA q c 7) (n - 7) (c - 7) := by
  obtain ⟨h1, h2, h3, h4, h5⟩ := hby.at
  have h7 : 7 ≤ n := by
    have := (List.isPrefixOf_iff_prefix.1 h).length_le
    rw [h1] at this; exact this
  refine ⟨h7, ?_⟩
  obtain ⟨b, o, rfl, _⟩ := h5.at (by omega)
  show Lib.bytesTrimPrefix b o n c (Lib.numsL t) (Lib.numsL closedS) = _
  unfold Lib.bytesTrimPrefix Lib.sliceFrom subA
  rw [bytesOf_numsL, bytesOf_numsL, h, if_pos rfl]
  show Value.slice (if c = 7 then _ else _) _ _ = _
  split <;> rfl
theorem trim_no {q : Option Addr} {n c : Nat} {t : List UInt8} {w : World} (hby : By w (.slice q n c) t) (h : Lib.hasPrefix t closedS = false) :
    Lib.trimPrefixV q n c (Lib.numsL t) (Lib.numsL closedS) = .slice q n c := by
  obtain ⟨h1, h2, h3, h4, h5⟩ := hby.at
  unfold Lib.trimPrefixV
  split
  · unfold Lib.bytesTrimPrefix
    rw [bytesOf_numsL, bytesOf_numsL, h, if_neg (by simp)]
  · rfl
theorem Cut_pre (q : Option Addr) (n c : Nat) (t : List UInt8) (X : World) (a : Option Addr) (hby : By X (.slice q n c) t) (hs : By X (.slice a 7 7) closedS) :
    Calls Tryz.prog 59 #[.slice q n c, .slice a 7 7] X fun e w' => e = .returned (.tuple #[if closedS.isPrefixOf t = true then .slice (subA q c 7) (n - 7) (c - 7) else .slice q n c, .bool (closedS.isPrefixOf t)]) ∧ w' = X := by
  obtain ⟨h1, h2, h3, h4, h5⟩ := hby.at
  refine (Tryz.bytes_CutPrefix_all q a n c 7 7 (Lib.numsL t) (Lib.numsL closedS) X (by rw [Lib.numsL_length, h1]) rfl h2 h5 hs.at.2.2.2.2).mono ?_
  rintro e w' ⟨rfl, rfl⟩
  rw [bytesOf_numsL, bytesOf_numsL]
  have e : Lib.hasPrefix t closedS = closedS.isPrefixOf t := rfl
  refine ⟨?_, rfl⟩
  cases hp : closedS.isPrefixOf t with
  | true => rw [(trim_eq hby (e.trans hp)).2, e, hp, if_pos rfl]
  | false => rw [trim_no hby (e.trans hp), e, hp, if_neg (by simp)]

theorem stop_sep (r : List UInt8) : (∀ j, j < (stopL r).length → r.getD j 0 ∉ sepC) ∧ ((stopL r).length = r.length ∨ ((stopL r).length < r.length ∧ r.getD (stopL r).length 0 ∈ sepC)) := by
  have hm : ∀ b : UInt8, stopB b = true ↔ b ∈ sepC := fun b => by unfold stopB sepC; simp [or_assoc]
  obtain ⟨_, h2, h3⟩ := stop_at r
  refine ⟨fun j hj h => ?_, ?_⟩
  · have := stop_mem r _ (h2 j hj)
    rw [(hm _).2 h] at this; cases this
  · rcases h3 with h3 | ⟨h3, h4⟩
    · exact .inl h3
    · exact .inr ⟨h3, (hm _).1 h4⟩
theorem closed_pos (most : Nat) (t : List UInt8) (h : closedS.isPrefixOf t = true) : parseQ most t = closedQ most (t.drop 7) := by unfold parseQ; rw [if_pos h]
theorem closed_neg (most : Nat) (t : List UInt8) (h : closedS.isPrefixOf t = false) : parseQ most t = match parseU t with
  | .inl e => .inl e
  | .inr u => if moreB t = true then .inl 2 else .inr (.inr u) := by
  unfold parseQ; rw [if_neg (by rw [h]; simp)]; rfl

def moreQ (mo : Bool) (u : U) : Sum Int (Sum Nat U) := if mo = true then .inl 2 else .inr (.inr u)
theorem retQ_form (x : Sum Int (Sum Nat U)) : ∃ a0 a1 a2 a3 m, retQ x = .tuple #[.agg #[.string a0, .string a1, .int .i64 a2, .int .i64 a3], .int .i64 m] := by
  rcases x with m | n | u
  · exact ⟨_, _, _, _, _, rfl⟩
  · exact ⟨_, _, _, _, _, rfl⟩
  · exact ⟨_, _, _, _, _, rfl⟩
set_option maxRecDepth 100000 in
set_option maxHeartbeats 8000000 in
theorem parse_any (q : Option Addr) (n c : Nat) (t : List UInt8) (most : Nat) (w : World) (hby : By w (.slice q n c) t) (hn : n ≤ 4096) (hm : most ≤ 9223372036854775807) (hG : Gl w) (hT : ∀ u, parseU t = .inr u → (textU u).length ≤ 4096) :
    Calls Tryz.prog 40 #[.slice q n c, .int .i64 (most : Int)] w fun e w' => e = .returned (retQ (parseQ most t)) ∧ Below w.heap.size w w' := by
  have kc := fun (w : World) (C : Array Value) (n c : Nat) => Lib.run_convert_bytes_const (P := Tryz.prog) w 51 5 C n c Tryz.underlying51 Tryz.underlying5
  obtain ⟨X0, hX0⟩ : ∃ Z, w.alloc (.cells #[.string ⟨#[]⟩, .string ⟨#[]⟩, .int .i64 0, .int .i64 0] 66) = Z := ⟨_, rfl⟩
  have A_0 : Below w.heap.size w X0 := by rw [← hX0]; exact (Below.refl _ w).alloc (Nat.le_refl _) _
  have hO_0 : OB w.heap.size #[.string ⟨#[]⟩, .string ⟨#[]⟩, .int .i64 0, .int .i64 0] X0 := by rw [← hX0]; exact OB.new w _
  have hs0 : X0.heap.size = w.heap.size + 1 := by rw [← hX0, World.size_alloc]
  obtain ⟨X1, hX1⟩ : ∃ Z, X0.alloc (.cells #[.int .u8 99, .int .u8 108, .int .u8 111, .int .u8 115, .int .u8 101, .int .u8 100, .int .u8 58] 5 (7, 8)) = Z := ⟨_, rfl⟩
  have hb : Below X0.heap.size X0 X1 := by rw [← hX1]; exact (Below.refl _ _).alloc (Nat.le_refl _) _
  have B_1 := A_0.trans (hb.mono A_0.size)
  have hO_1 := hO_0.on hb
  have hlit := by_lit X0 #[.int .u8 99, .int .u8 108, .int .u8 111, .int .u8 115, .int .u8 101, .int .u8 100, .int .u8 58] closedS (7, 8) 7 rfl rfl (by decide)
  rw [hX1, hs0] at hlit
  have T_1 := hby.on B_1
  have con := Cut_pre q n c t X1 _ T_1 hlit
  have kc1 := kc (w.alloc (.cells #[.string ⟨#[]⟩, .string ⟨#[]⟩, .int .i64 0, .int .i64 0] 66)) #[.int .u8 99, .int .u8 108, .int .u8 111, .int .u8 115, .int .u8 101, .int .u8 100, .int .u8 58] 7 7
  rw [World.size_alloc] at kc1
  have HX0 := Lib.hid hX0
  have HX1 := Lib.hid hX1
  have HG := Lib.hid hG
  have HS0 := Lib.hid hs0
  have hTl := hby.at.1
  clear hX0 hX1 hlit hby hG A_0 hO_0 hb hs0
  cases hp : closedS.isPrefixOf t with
  | true =>
    rw [hp, if_pos rfl] at con
    have h7 : 7 ≤ n := (trim_eq T_1 hp).1
    have con2 := parseClosed_any (subA q c 7) (n - 7) (c - 7) (t.drop 7) most X1 (T_1.drop h7) (by omega) hm
    rw [closed_pos most t hp]
    obtain ⟨a0, a1, a2, a3, m, hr⟩ := retQ_form (closedQ most (t.drop 7))
    rw [hr] at con2
    have HR := Lib.hid hr
    clear hr hp T_1 hTl
    go_enter Tryz.func40, Tryz.ntmps40
    go_wp2_with fail
    rw [HX0.out, HX1.out]
    refine con.mono ?_
    rintro e w1 ⟨rfl, rfl⟩
    clear con
    go_wp2_with fail
    refine con2.mono ?_
    rintro e w2 ⟨rfl, hb⟩
    have B_2 := B_1.trans (hb.mono B_1.size)
    have hO_2 := hO_1.on hb
    clear con2 hb hO_1 B_1 HX0 HX1
    have z0 := hO_2.box 0 _ rfl
    have z1 := hO_2.box 1 _ rfl
    have z2 := hO_2.box 2 _ rfl
    have z3 := hO_2.box 3 _ rfl
    have f0 := hO_2.frozen 0
    have f1 := hO_2.frozen 1
    have f2 := hO_2.frozen 2
    have f3 := hO_2.frozen 3
    go_wp2
    obtain ⟨Y, hY, hU, hkY, hbY⟩ := OB.put hO_2 (.string a0) (.string a1) (.int .i64 a2) (.int .i64 a3)
    rw [hY]
    (try simp only [Exit.inBlock, Exit.then])
    refine bodyPost_ret (ret_org2 rfl _ _ w.heap.size _ rfl hU rfl) rfl ?_
    exact ⟨by rw [HR.out]; rfl, B_2.trans (hbY _ (Nat.le_refl _))⟩
  | false =>
    rw [hp, if_neg (by simp)] at con
    rw [closed_neg most t hp]
    have hpc := parse_canon t (by omega)
    have con2 := Parse_of canonOk q n c t X1 T_1 hn (HG.out.on B_1) (fun u hu => hT u (hpc.trans hu))
    cases hc : canonU t with
    | inl m =>
      rw [hpc, hc]
      rw [hc] at con2
      clear hc hpc hp hT T_1 hTl
      go_enter Tryz.func40, Tryz.ntmps40
      go_wp2_with fail
      rw [HX0.out, HX1.out]
      refine con.mono ?_
      rintro e w1 ⟨rfl, rfl⟩
      clear con
      go_wp2_with fail
      refine con2.mono ?_
      rintro e w2 ⟨hm0, rfl, hb⟩
      have e1 : ((m : Int) != 0) = true := by rw [bne_iff_ne]; exact hm0
      have B_2 := B_1.trans (hb.mono B_1.size)
      have hO_2 := hO_1.on hb
      have A_3 := (Below.refl _ w2).alloc (Nat.le_refl _) (.cells zeroU 99)
      have B_3 := B_2.trans (A_3.mono B_2.size)
      have hO_3 := hO_2.on A_3
      unfold zeroU at *
      clear con2 hb hO_1 B_1 HX0 HX1 hm0
      have z0 := hO_3.box 0 _ rfl
      have z1 := hO_3.box 1 _ rfl
      have z2 := hO_3.box 2 _ rfl
      have z3 := hO_3.box 3 _ rfl
      have f0 := hO_3.frozen 0
      have f1 := hO_3.frozen 1
      have f2 := hO_3.frozen 2
      have f3 := hO_3.frozen 3
      go_wp2
      obtain ⟨Y, hY, hU, hkY, hbY⟩ := OB.put hO_3 (.string ⟨#[]⟩) (.string ⟨#[]⟩) (.int .i64 0) (.int .i64 0)
      rw [hY]
      (try simp only [Exit.inBlock, Exit.then])
      refine bodyPost_ret (ret_org2 rfl _ _ w.heap.size _ rfl hU rfl) rfl ?_
      exact ⟨rfl, B_3.trans (hbY _ (Nat.le_refl _))⟩
    | inr u =>
      rw [hpc, hc]
      rw [hc] at con2
      obtain ⟨s, r, hsep, hsm⟩ := parse_sep t u (hpc.trans hc)
      rcases sep_cases t with ⟨hk, hsp⟩ | ⟨k, hk, hkl, hsp⟩
      · rw [hsep] at hsp; cases hsp
      rw [hsep] at hsp
      obtain ⟨rfl, rfl⟩ := Prod.mk.inj (Option.some.inj hsp)
      have hmore : moreB t = decide ((stopL (t.drop (k + 3))).length < (t.drop (k + 3)).length) := by unfold moreB; rw [hsep]
      simp only
      rw [hmore]
      have hdl : (t.drop (k + 3)).length = n - (k + 3) := by rw [List.length_drop]; omega
      obtain ⟨hst1, hst2⟩ := stop_sep (t.drop (k + 3))
      have hst3 := (stop_at (t.drop (k + 3))).2.1
      have conK := fun X (hX : By X (.slice q n c) t) => ContainsAny_sep (subA q c (k + 3)) (n - (k + 3)) (c - (k + 3)) (stopL (t.drop (k + 3))).length (t.drop (k + 3)) X (hX.drop (by omega)) (by omega) (fun j hj => ⟨hsm _ (hst3 j hj), hst1 j hj⟩) (by rw [← hdl]; exact hst2)
      have hcs := cut_some (q := q) (n := n) (c := c) hk
      rw [hdl]
      clear hc hpc hp hT hsep hsp hmore hst1 hst2 hst3 hsm hk
      generalize (stopL (t.drop (k + 3))).length = K at *
      generalize decide (K < n - (k + 3)) = mo at *
      show Calls _ _ _ _ fun e w' => e = .returned (retQ (moreQ mo u)) ∧ _
      have HK := Lib.hid conK
      have HCS := Lib.hid hcs
      clear conK hcs hdl
      go_enter Tryz.func40, Tryz.ntmps40
      go_wp2_with fail
      rw [HX0.out, HX1.out]
      refine con.mono ?_
      rintro e w1 ⟨rfl, rfl⟩
      clear con
      go_wp2_with fail
      refine con2.mono ?_
      rintro e X2 ⟨v, rfl, hin, hb⟩
      have B_2 := B_1.trans (hb.mono B_1.size)
      have hO_2 := hO_1.on hb
      have T_2 := T_1.on hb
      clear con2 hb hO_1 B_1 HX0 HX1 T_1
      obtain ⟨q0, n0, c0, q1, n1, c1, q3, n3, c3, q4, n4, c4, q5, n5, c5, rfl, _⟩ := id hin
      obtain ⟨X3, hX3⟩ : ∃ Z, X2.alloc (.cells #[.slice q0 n0 c0, .slice q1 n1 c1, .int .i64 u.port, .slice q3 n3 c3, .slice q4 n4 c4, .slice q5 n5 c5, .bool u.hq, .bool u.hf] 99) = Z := ⟨_, rfl⟩
      obtain ⟨b8, hb8⟩ : ∃ b, X2.heap.size = b := ⟨_, rfl⟩
      have U_3 : UB b8 #[.slice q0 n0 c0, .slice q1 n1 c1, .int .i64 u.port, .slice q3 n3 c3, .slice q4 n4 c4, .slice q5 n5 c5, .bool u.hq, .bool u.hf] X3 := by rw [← hX3, ← hb8]; exact UB.new X2 _
      have hb : Below X2.heap.size X2 X3 := by rw [← hX3]; exact (Below.refl _ _).alloc (Nat.le_refl _) _
      have B_3 := B_2.trans (hb.mono B_2.size)
      have hO_3 := hO_2.on hb
      have T_3 := T_2.on hb
      have I_3 := hin.on hb
      have hs3 : X3.heap.size = b8 + 1 := by rw [← hX3, ← hb8, World.size_alloc]
      have HX3 := Lib.hid hX3
      have HB8 := Lib.hid hb8
      clear hX3 hb8 hb hO_2 B_2 T_2 hin
      obtain ⟨X4, hX4⟩ : ∃ Z, X3.alloc (.cells #[.int .u8 58, .int .u8 47, .int .u8 47] 5 (3, 4)) = Z := ⟨_, rfl⟩
      have hb : Below X3.heap.size X3 X4 := by rw [← hX4]; exact (Below.refl _ _).alloc (Nat.le_refl _) _
      have hlit := bytes_lit (w := X3) #[.int .u8 58, .int .u8 47, .int .u8 47] sepS (3, 4) rfl
      rw [hX4, hs3] at hlit
      have B_4 := B_3.trans (hb.mono B_3.size)
      have hO_4 := hO_3.on hb
      have T_4 := T_3.on hb
      have I_4 := I_3.on hb
      have U_4 := U_3.on hb
      have con := Cut_any q (some ⟨b8 + 1, 0, none⟩) n c 3 t X4 T_4 (by omega) (HG.out.on B_4) hlit
      rw [HCS.out] at con
      have kc3 := kc (X2.alloc (.cells #[.slice q0 n0 c0, .slice q1 n1 c1, .int .i64 u.port, .slice q3 n3 c3, .slice q4 n4 c4, .slice q5 n5 c5, .bool u.hq, .bool u.hf] 99)) #[.int .u8 58, .int .u8 47, .int .u8 47] 3 3
      rw [World.size_alloc] at kc3
      have HX4 := Lib.hid hX4
      clear hX4 hs3 hb hO_3 B_3 T_3 I_3 U_3 hlit
      go_wp2_with fail
      rw [HB8.out, HX3.out, HX4.out]
      refine con.mono ?_
      rintro e X5 ⟨rfl, m, hX5⟩
      have hb : Below X4.heap.size X4 X5 := by rw [hX5]; exact Url.below_drewN _ _
      have B_5 := B_4.trans (hb.mono B_4.size)
      have hO_5 := hO_4.on hb
      have T_5 := T_4.on hb
      have I_5 := I_4.on hb
      have U_5 := U_4.on hb
      clear con hX5 hb hO_4 B_4 T_4 I_4 U_4 HX3 HX4 kc3
      have con := HK.out X5 T_5
      go_wp2_with fail
      refine con.mono ?_
      rintro e X6 ⟨rfl, hb⟩
      have B_6 := B_5.trans (hb.mono B_5.size)
      have hO_6 := hO_5.on hb
      have I_6 := I_5.on hb
      have U_6 := U_5.on hb
      clear con hb hO_5 B_5 T_5 I_5 U_5 HK
      cases mo with
      | true =>
        have z0 := hO_6.box 0 _ rfl
        have z1 := hO_6.box 1 _ rfl
        have z2 := hO_6.box 2 _ rfl
        have z3 := hO_6.box 3 _ rfl
        have f0 := hO_6.frozen 0
        have f1 := hO_6.frozen 1
        have f2 := hO_6.frozen 2
        have f3 := hO_6.frozen 3
        go_wp2
        obtain ⟨Y, hY, hU, hkY, hbY⟩ := OB.put hO_6 (.string ⟨#[]⟩) (.string ⟨#[]⟩) (.int .i64 0) (.int .i64 0)
        rw [hY]
        (try simp only [Exit.inBlock, Exit.then])
        refine bodyPost_ret (ret_org2 rfl _ _ w.heap.size _ rfl hU rfl) rfl ?_
        exact ⟨rfl, B_6.trans (hbY _ (Nat.le_refl _))⟩
      | false =>
        have con := Of_any u _ X6 I_6
        unfold orgV at con
        have x0 := U_6.box 0 _ rfl
        have x1 := U_6.box 1 _ rfl
        have x2 := U_6.box 2 _ rfl
        have x3 := U_6.box 3 _ rfl
        have x4 := U_6.box 4 _ rfl
        have x5 := U_6.box 5 _ rfl
        have x6 := U_6.box 6 _ rfl
        have x7 := U_6.box 7 _ rfl
        go_wp2_with fail
        refine con.mono ?_
        rintro e X7 ⟨rfl, hb⟩
        have B_7 := B_6.trans (hb.mono B_6.size)
        have hO_7 := hO_6.on hb
        clear con hb hO_6 B_6 I_6 U_6 x0 x1 x2 x3 x4 x5 x6 x7
        have z0 := hO_7.box 0 _ rfl
        have z1 := hO_7.box 1 _ rfl
        have z2 := hO_7.box 2 _ rfl
        have z3 := hO_7.box 3 _ rfl
        have f0 := hO_7.frozen 0
        have f1 := hO_7.frozen 1
        have f2 := hO_7.frozen 2
        have f3 := hO_7.frozen 3
        go_wp2
        obtain ⟨Y, hY, hU, hkY, hbY⟩ := OB.put hO_7 (.string ⟨u.scheme.toArray⟩) (.string ⟨u.host.toArray⟩) (.int .i64 u.port) (.int .i64 0)
        rw [hY]
        (try simp only [Exit.inBlock, Exit.then])
        refine bodyPost_ret (ret_org2 rfl _ _ w.heap.size _ rfl hU rfl) rfl ?_
        exact ⟨rfl, B_7.trans (hbY _ (Nat.le_refl _))⟩

end Go.Proofs.YtfgdikkefgjldaaGreatDoor.Org

namespace Go.Proofs.YtfgdikkefgjldaaGreatDoor.Org
open Go.RowKit Go.Shelf Url
attribute [local go_sem] Oper.semAt_some

/-- What an origin is as a value. -/
def valQ : Sum Nat U → Value
  | .inl n => orgV [] [] 0 (n : Int)
  | .inr u => orgV u.scheme u.host u.port 0
theorem retQ_inr (x : Sum Nat U) : retQ (.inr x) = .tuple #[valQ x, .int .i64 0] := by cases x <;> rfl
/-- It is one: a number from 1 on, or a URL in its one form. -/
def QOk : Sum Nat U → Prop
  | .inl n => 1 ≤ n ∧ n ≤ 9223372036854775807
  | .inr u => Ok u
theorem Text_val (x : Sum Nat U) (h : QOk x) (w : World) (hG : Gl w) :
    Calls Tryz.prog 41 #[valQ x] w fun e w' => e = .returned (.string ⟨(textO x).toArray⟩) ∧ Below w.heap.size w w' := by
  cases x with
  | inl n => exact Text_closed n h.1 h.2 w hG
  | inr u => exact Text_server u h w hG
theorem val_form (x : Sum Nat U) : ∃ a0 a1 a2 a3, valQ x = .agg #[.string a0, .string a1, .int .i64 a2, .int .i64 a3] := by
  cases x <;> exact ⟨_, _, _, _, rfl⟩

end Go.Proofs.YtfgdikkefgjldaaGreatDoor.Org

namespace Go.Proofs.YtfgdikkefgjldaaGreatDoor.Org
open Go.RowKit Go.Shelf Url
set_option linter.unusedVariables false

theorem rest_err (s r : List UInt8) (n : Int) (h : restU s r = .inl n) : n ≠ 0 := by
  unfold restU at h
  simp only at h
  split at h
  · rename_i hh
    cases h; exact hh
  · split at h
    · cases h
    · cases h; decide
theorem parse_err (t : List UInt8) (n : Int) (h : parseU t = .inl n) : n ≠ 0 := by
  unfold parseU at h
  split at h
  · cases h; decide
  · split at h
    · cases h; decide
    · split at h
      · exact rest_err _ _ _ h
      · cases h; decide
theorem Q_err (most : Nat) (t : List UInt8) (n : Int) (h : parseQ most t = .inl n) : n ≠ 0 := by
  unfold parseQ at h
  split at h
  · unfold closedQ at h
    split at h
    · split at h
      · cases h
      · cases h; decide
    · cases h; decide
  · split at h
    · rename_i e he
      cases h; exact parse_err t _ he
    · split at h
      · cases h; decide
      · cases h
end Go.Proofs.YtfgdikkefgjldaaGreatDoor.Org

namespace Go.Proofs.YtfgdikkefgjldaaGreatDoor.Cls
open Go.RowKit Go.Shelf Url Org
attribute [local go_sem] Oper.semAt_some

theorem prin_err (t : List UInt8) (n : Int) (h : parseQ 9223372036854775807 t = .inl n) : prinB t = false := by unfold prinB; rw [h]
theorem prin_is (t : List UInt8) (x : Sum Nat U) (h : parseQ 9223372036854775807 t = .inr x) : prinB t = decide (textO x = t) := by unfold prinB; rw [h]
theorem q_ok (t : List UInt8) (x : Sum Nat U) (h : parseQ 9223372036854775807 t = .inr x) : QOk x := by
  rcases Q_in _ t x h with ⟨n, rfl, h1, h2⟩ | ⟨u, rfl, hu⟩
  · exact ⟨h1, h2⟩
  · exact parse_ok t u hu
set_option maxRecDepth 100000 in
set_option maxHeartbeats 8000000 in
theorem Principal_any (t : List UInt8) (w : World) (hn : t.length ≤ 1300) (hG : Gl w) :
    Calls Tryz.prog 25 #[.string ⟨t.toArray⟩] w fun e w' => e = .returned (.bool (prinB t)) ∧ Below w.heap.size w w' := by
  obtain ⟨c, X, k0, hby, B1, -⟩ := conv_new w t (by omega)
  have con := parse_any (some ⟨w.heap.size, 0, none⟩) t.length c t 9223372036854775807 X hby (by omega) (by omega) (hG.on B1) (fun u hu => by have := text_len t u hu; omega)
  have HG := Lib.hid hG
  cases hq : parseQ 9223372036854775807 t with
  | inl n =>
    have HP := Lib.hid (prin_err t n hq)
    have e1 : ((n : Int) == 0) = false := by rw [beq_eq_false_iff_ne]; exact Q_err _ t n hq
    rw [hq] at con
    unfold retQ orgV at con
    clear hby hG hq
    go_enter Tryz.func25, Tryz.ntmps25
    go_wp2_with fail
    (try rw [k0])
    go_wp2_with fail
    refine con.mono ?_
    rintro e X2 ⟨rfl, hb⟩
    have B2 := B1.trans (hb.mono B1.size)
    have B3 := B2.alloc B2.size (.cells #[.string ⟨#[]⟩, .string ⟨#[]⟩, .int .i64 0, .int .i64 0] 66)
    clear hb B1 B2 k0 con
    go_wp2
    go_ret
    exact ⟨by rw [HP.out]; try rfl, B3⟩
  | inr x =>
    have HP := Lib.hid (prin_is t x hq)
    have con2 := fun Y (hY : Gl Y) => Text_val x (q_ok t x hq) Y hY
    rw [hq, retQ_inr] at con
    obtain ⟨a0, a1, a2, a3, hv⟩ := val_form x
    rw [hv] at con con2
    have e2 := strs_eq (textO x) t
    generalize textO x = T at *
    have HC := Lib.hid con2
    clear hby hG hq hv con2
    obtain ⟨z, hz⟩ : ∃ z, decide (T = t) = z := ⟨_, rfl⟩
    have e3 : (T == t) = z := by rw [← hz, Bool.eq_iff_iff, beq_iff_eq, decide_eq_true_iff]
    rw [hz] at HP e2
    clear hz
    go_enter Tryz.func25, Tryz.ntmps25
    go_wp2_with fail
    (try rw [k0])
    go_wp2_with fail
    refine con.mono ?_
    rintro e X2 ⟨rfl, hb⟩
    have B2 := B1.trans (hb.mono B1.size)
    have A3 := (Below.refl _ X2).alloc (Nat.le_refl _) (.cells #[.string a0, .string a1, .int .i64 a2, .int .i64 a3] 66)
    have hN := OB.new X2 #[.string a0, .string a1, .int .i64 a2, .int .i64 a3]
    have B3 := B2.trans (A3.mono B2.size)
    have n0 := hN.box 0 _ rfl
    have n1 := hN.box 1 _ rfl
    have n2 := hN.box 2 _ rfl
    have n3 := hN.box 3 _ rfl
    have con := HC.out _ (HG.out.on B3)
    clear hb B1 B2 A3 k0 hN
    go_wp2_with fail
    refine con.mono ?_
    rintro e X4 ⟨rfl, hb⟩
    clear con
    go_wp2
    go_ret
    exact ⟨by rw [HP.out, ← e3]; try rfl, B3.trans (hb.mono B3.size)⟩

end Go.Proofs.YtfgdikkefgjldaaGreatDoor.Cls

namespace Go.Proofs.YtfgdikkefgjldaaGreatDoor.Cls
open Go.RowKit Go.Shelf Url Org Frm
attribute [local go_sem] Oper.semAt_some

def errC {α : Type} : Sum Int α → Int
  | .inl n => n
  | .inr _ => 0
def valC {α : Type} : Sum Int (List α) → List α
  | .inl _ => []
  | .inr x => x
/-- A clause and no error, or the zero clause and one. -/
def ClsOut (r : Sum Int (List (List UInt8))) (w : World) (e : Ending) (w' : World) : Prop :=
  ∃ q n c, e = .returned (.tuple #[.agg #[.slice q n c], .int .i64 (errC r)]) ∧ SetIs encStr w' (.agg #[.slice q n c]) (valC r) ∧ Below w.heap.size w w'
theorem set_nil (w : World) : SetIs encStr w (.agg #[.slice none 0 0]) [] := ⟨none, 0, 0, rfl, Nat.le_refl _, Nat.zero_le _, SlIn.nil _ _ _, Rises.nil⟩
theorem set_form {w : World} {v : Value} {x : List (List UInt8)} (h : SetIs encStr w v x) : ∃ q n c, v = .agg #[.slice q n c] := by
  obtain ⟨q, n, c, rfl, _⟩ := h
  exact ⟨q, n, c, rfl⟩
theorem ret_cls2 {fn : Func} {p u : Tmp} (h : fn.results = #[.cell p 28, .tmp u]) (tmps : Array Value) (w : World) (B : Nat) (v : Value) (hp : tmps.getD p undef = .pointer (some ⟨B, 0, none⟩)) (hU : Boxed w B 28 v) :
    (results fn tmps).run Tryz.prog w = .ok (.tuple #[.agg #[v], tmps.getD u undef]) w := by
  rw [results_cell_tmp h, hp]
  simp [asAddr, Result.andThen, run_loadVar_row w B 28 _ #[v] (0, 0) _ hU Tryz.underlying28 rfl (by kernel_rfl)]

set_option maxHeartbeats 1000000 in
theorem Len_any (v : Value) (x : List (List UInt8)) (w : World) (h : SetIs encStr w v x) :
    Calls Tryz.prog 13 #[v] w fun e w' => e = .returned (.int .i64 x.length) ∧ Below w.heap.size w w' := by
  obtain ⟨q, n, c, rfl⟩ := set_form h
  have A1 := below_alloc (w := w) (.cells #[.slice q n c] 28)
  have con := S.Len_any _ x _ (h.below A1)
  clear h
  go_enter Tryz.func13, Tryz.ntmps13
  go_wp2_with fail
  refine con.mono ?_
  rintro e w' ⟨rfl, hb⟩
  go_wp2
  go_ret
  exact ⟨rfl, A1.trans (hb.mono A1.size)⟩

set_option maxHeartbeats 1000000 in
theorem Implies_any (v1 v2 : Value) (x y : List (List UInt8)) (w : World) (h1 : SetIs encStr w v1 x) (h2 : SetIs encStr w v2 y) (l1 : x.length ≤ 1099511627776) (l2 : y.length ≤ 1099511627776) :
    Calls Tryz.prog 18 #[v1, v2] w fun e w' => e = .returned (.bool (subB x y)) ∧ Below w.heap.size w w' := by
  obtain ⟨q1, n1, c1, rfl⟩ := set_form h1
  obtain ⟨q2, n2, c2, rfl⟩ := set_form h2
  have A1 := below_alloc (w := w) (.cells #[.slice q1 n1 c1] 28)
  have A2 := A1.trans ((below_alloc (w := w.alloc (.cells #[.slice q1 n1 c1] 28)) (.cells #[.slice q2 n2 c2] 28)).mono A1.size)
  have con := S.Sub_any _ _ x y _ (h1.below A2) (h2.below A2) l1 l2
  clear h1 h2
  go_enter Tryz.func18, Tryz.ntmps18
  go_wp2_with fail
  refine con.mono ?_
  rintro e w' ⟨rfl, hb⟩
  go_wp2
  go_ret
  exact ⟨rfl, A2.trans (hb.mono A2.size)⟩

set_option maxHeartbeats 1000000 in
theorem Cmp_any (v1 v2 : Value) (x y : List (List UInt8)) (w : World) (h1 : SetIs encStr w v1 x) (h2 : SetIs encStr w v2 y) :
    Calls Tryz.prog 20 #[v1, v2] w fun e w' => e = .returned (.int .i64 (cmpL x y)) ∧ Below w.heap.size w w' := by
  obtain ⟨q1, n1, c1, rfl⟩ := set_form h1
  obtain ⟨q2, n2, c2, rfl⟩ := set_form h2
  have A1 := below_alloc (w := w) (.cells #[.slice q1 n1 c1] 28)
  have A2 := A1.trans ((below_alloc (w := w.alloc (.cells #[.slice q1 n1 c1] 28)) (.cells #[.slice q2 n2 c2] 28)).mono A1.size)
  have con := S.Cmp_any _ _ x y _ (h1.below A2) (h2.below A2)
  clear h1 h2
  go_enter Tryz.func20, Tryz.ntmps20
  go_wp2_with fail
  refine con.mono ?_
  rintro e w' ⟨rfl, hb⟩
  go_wp2
  go_ret
  exact ⟨rfl, A2.trans (hb.mono A2.size)⟩

/-- A set of at most 16 principals, or the error. -/
def bndC (x : List (List UInt8)) : Sum Int (List (List UInt8)) := if x.length ≤ 16 then .inr x else .inl 3
theorem ofC_bnd (l : List (List UInt8)) : ofC l = if l.all prinB = true then bndC (setS l) else .inl 2 := by
  unfold ofC bndC; rw [setS_sort]
theorem eitherC_bnd (x y : List (List UInt8)) : eitherC x y = bndC (pickL [1, 2, 3] x y) := rfl

set_option maxRecDepth 100000 in
set_option maxHeartbeats 4000000 in
theorem bounded_any (v : Value) (x : List (List UInt8)) (w : World) (h : SetIs encStr w v x) :
    Calls Tryz.prog 26 #[v] w (ClsOut (bndC x) w) := by
  obtain ⟨q, n, c, rfl⟩ := set_form h
  obtain ⟨W2, hW2⟩ : ∃ W2, (w.alloc (.cells #[.slice q n c] 26)).alloc (.cells #[.slice none 0 0] 28) = W2 := ⟨_, rfl⟩
  have A2 : Below w.heap.size w W2 := hW2 ▸ ((Below.refl _ w).alloc (Nat.le_refl _) _).alloc (by simp) _
  have b1 : Boxed W2 w.heap.size 26 (.slice q n c) := hW2 ▸ (Boxed.new w _ _).alloc _
  have b2 : Boxed W2 (w.heap.size + 1) 28 (.slice none 0 0) := by
    have := Boxed.new (w.alloc (.cells #[.slice q n c] 26)) 28 (.slice none 0 0)
    rw [World.size_alloc] at this
    exact hW2 ▸ this
  have hs2 := h.below A2
  have con := S.Len_any _ x _ hs2
  have c1 := b1.cell
  have HW2 := Lib.hid hW2
  clear h hW2
  have key : ∀ w3, Below W2.heap.size W2 w3 → Boxed w3 (w.heap.size + 1) 28 (.slice none 0 0) ∧ w3.cell? ⟨w.heap.size, 0, none⟩ = some (.slice q n c) ∧ SetIs encStr w3 (.agg #[.slice q n c]) x ∧ Below w.heap.size w w3 := fun w3 hb =>
    ⟨(Keep.of_below hb).boxed b2 b2.lt, ((Keep.of_below hb).boxed b1 b1.lt).cell, hs2.below hb, A2.trans (hb.mono A2.size)⟩
  clear b1 b2 hs2
  unfold bndC
  by_cases hx : x.length ≤ 16
  · rw [if_pos hx]
    have d : decide ((16 : Int) < (x.length : Int)) = false := by simp; omega
    go_enter Tryz.func26, Tryz.ntmps26
    go_wp2_with fail
    rw [HW2.out]
    refine con.mono ?_
    rintro e w3 ⟨rfl, hb⟩
    obtain ⟨k2, k1, k3, k4⟩ := key w3 hb
    have kf := k2.frozen
    have kc := k2.cell
    clear con key hb
    go_wp2
    refine bodyPost_ret (ret_cls2 rfl _ _ (w.heap.size + 1) _ rfl (k2.set _)) rfl ?_
    exact ⟨q, n, c, rfl, k3.set k2 (fun x h => by cases h), k4.setCell (by simp) _⟩
  · rw [if_neg hx]
    have d : decide ((16 : Int) < (x.length : Int)) = true := by simp; omega
    go_enter Tryz.func26, Tryz.ntmps26
    go_wp2_with fail
    rw [HW2.out]
    refine con.mono ?_
    rintro e w3 ⟨rfl, hb⟩
    obtain ⟨k2, k1, k3, k4⟩ := key w3 hb
    have kf := k2.frozen
    have kc := k2.cell
    clear con key hb
    go_wp2
    refine bodyPost_ret (ret_cls2 rfl _ _ (w.heap.size + 1) _ rfl (k2.set _)) rfl ?_
    exact ⟨none, 0, 0, rfl, set_nil _, k4.setCell (by simp) _⟩

set_option maxRecDepth 100000 in
set_option maxHeartbeats 4000000 in
theorem Either_any (v1 v2 : Value) (x y : List (List UInt8)) (w : World) (h1 : SetIs encStr w v1 x) (h2 : SetIs encStr w v2 y) (l1 : x.length ≤ 1099511627776) (l2 : y.length ≤ 1099511627776) :
    Calls Tryz.prog 23 #[v1, v2] w (ClsOut (eitherC x y) w) := by
  rw [eitherC_bnd]
  obtain ⟨q1, n1, c1, rfl⟩ := set_form h1
  obtain ⟨q2, n2, c2, rfl⟩ := set_form h2
  obtain ⟨W3, hW3⟩ : ∃ W3, ((w.alloc (.cells #[.slice q1 n1 c1] 28)).alloc (.cells #[.slice q2 n2 c2] 28)).alloc (.cells #[.slice none 0 0] 28) = W3 := ⟨_, rfl⟩
  have A3 : Below w.heap.size w W3 := hW3 ▸ (((Below.refl _ w).alloc (Nat.le_refl _) _).alloc (by simp) _).alloc (by simp; omega) _
  have b0 : Boxed W3 w.heap.size 28 (.slice q1 n1 c1) := hW3 ▸ ((Boxed.new w _ _).alloc _).alloc _
  have b1 : Boxed W3 (w.heap.size + 1) 28 (.slice q2 n2 c2) := by
    have := (Boxed.new (w.alloc (.cells #[.slice q1 n1 c1] 28)) 28 (.slice q2 n2 c2)).alloc (.cells #[.slice none 0 0] 28)
    rw [World.size_alloc] at this
    exact hW3 ▸ this
  have b2 : Boxed W3 (w.heap.size + 1 + 1) 28 (.slice none 0 0) := by
    have := Boxed.new ((w.alloc (.cells #[.slice q1 n1 c1] 28)).alloc (.cells #[.slice q2 n2 c2] 28)) 28 (.slice none 0 0)
    rw [World.size_alloc, World.size_alloc] at this
    exact hW3 ▸ this
  have con := S.Join_any _ _ x y _ (h1.below A3) (h2.below A3) l1 l2
  generalize pickL [1, 2, 3] x y = z at con ⊢
  have k0 := b0.cell
  have k1 := b1.cell
  have HW3 := Lib.hid hW3
  clear h1 h2 hW3
  go_enter Tryz.func23, Tryz.ntmps23
  go_wp2_with fail
  rw [HW3.out]
  go_wp2_with fail
  refine con.mono ?_
  rintro e w4 ⟨v, rfl, hs, hb⟩
  have con2 := bounded_any v z w4 hs
  obtain ⟨q, n, c, rfl⟩ := set_form hs
  replace b2 := (Keep.of_below hb).boxed b2 b2.lt
  have A4 := A3.trans (hb.mono A3.size)
  clear con hb b0 b1 hs
  go_wp2_with fail
  refine con2.mono ?_
  rintro e w5 ⟨q5, n5, c5, rfl, hs, hb⟩
  replace b2 := (Keep.of_below hb).boxed b2 b2.lt
  have A5 := A4.trans (hb.mono A4.size)
  have kf := b2.frozen
  have kc := b2.cell
  clear con2 hb k0 k1
  go_wp2
  refine bodyPost_ret (ret_cls2 rfl _ _ (w.heap.size + 1 + 1) _ rfl (b2.set _)) rfl ?_
  exact ⟨q5, n5, c5, rfl, hs.set b2 (fun x h => by cases h), A5.setCell (by simp; omega) _⟩

set_option maxRecDepth 100000 in
set_option maxHeartbeats 8000000 in
theorem Of_any (q : Option Addr) (n c : Nat) (l : List (List UInt8)) (w : World) (h : SlIn encStr w q n l) (hq : q = none → c = 0) (hm : n ≤ 1099511627776) (hlen : ∀ t ∈ l, t.length ≤ 1300) (hG : Gl w) :
    Calls Tryz.prog 8 #[.slice q n c] w (ClsOut (ofC l) w) := by
  have hl := Lib.hid h.1
  obtain ⟨W1, hW1⟩ : ∃ W1, w.alloc (.cells #[.slice none 0 0] 28) = W1 := ⟨_, rfl⟩
  have A1 : Below w.heap.size w W1 := hW1 ▸ (Below.refl _ w).alloc (Nat.le_refl _) _
  have b1 : Boxed W1 w.heap.size 28 (.slice none 0 0) := hW1 ▸ Boxed.new w _ _
  have HW1 := Lib.hid hW1
  have HO := Lib.hid (ofC_bnd l)
  have HL := Lib.hid hlen
  have HG := Lib.hid hG
  clear hW1 hlen hG
  go_enter Tryz.func8, Tryz.ntmps8
  go_wp2_with fail
  rw [HW1.out]
  go_loopw [8] (fun i wr => ∃ k : Nat, k ≤ n ∧ i = .int .i64 k ∧ Hid (∀ j x, j < k → l[j]? = some x → prinB x = true) ∧ Boxed wr w.heap.size 28 (.slice none 0 0) ∧ Below w.heap.size w wr) (fun i _ => n - (intOf i).toNat)
  case atStart => exact ⟨0, Nat.zero_le _, rfl, Lib.hid (fun j x h => by omega), b1, A1⟩
  case round =>
    obtain ⟨k, hk, rfl, HJ, hb, hB⟩ := hrel
    clear b1 A1 HW1
    have kf := hb.frozen
    have hr := h.below hB h.lt
    by_cases hlt : k < n
    · obtain ⟨b, o, rfl, _, hc⟩ := hr.at (by omega)
      obtain ⟨x, hx, _⟩ := drop_getElem l k (by rw [hl.out]; exact hlt)
      have hck : wr.cell? ⟨b, o + k, none⟩ = some (.string ⟨x.toArray⟩) := hc k x hx
      have con := Principal_any x wr (HL.out x (List.mem_of_getElem? hx)) (HG.out.on hB)
      cases hp : prinB x with
      | false =>
        rw [hp] at con
        have HR := Lib.hid (show ofC l = .inl 2 by
          rw [HO.out, if_neg]
          intro ha
          have := List.all_eq_true.1 ha x (List.mem_of_getElem? hx)
          rw [hp] at this; cases this)
        clear hc hx hr h HJ
        go_wp2_with fail
        refine con.mono ?_
        rintro e w3 ⟨rfl, hb3⟩
        replace hb := (Keep.of_below hb3).boxed hb hb.lt
        have kf := hb.frozen
        have kc := hb.cell
        have A3 := hB.trans (hb3.mono hB.size)
        clear con hb3
        go_wp2
        refine bodyPost_ret (ret_cls2 rfl _ _ w.heap.size _ rfl (hb.set _)) rfl ?_
        rw [HR.out]
        exact ⟨none, 0, 0, rfl, set_nil _, A3.setCell (Nat.le_refl _) _⟩
      | true =>
        rw [hp] at con
        have HJ2 := Lib.hid (show ∀ j y, j < k + 1 → l[j]? = some y → prinB y = true from fun j y hj hy => by
          by_cases e : j = k
          · subst e; rw [hx] at hy; cases hy; exact hp
          · exact HJ.out j y (by omega) hy)
        clear hc hx hr HJ hp
        go_wp2_with fail
        refine con.mono ?_
        rintro e w3 ⟨rfl, hb3⟩
        replace hb := (Keep.of_below hb3).boxed hb hb.lt
        have A3 := hB.trans (hb3.mono hB.size)
        clear con hb3
        go_wp2
        go_roundw
        case rel => exact ⟨k + 1, by omega, by go_num, HJ2, hb, A3⟩
        case measure => simp [intOf]; omega
    · obtain rfl : k = n := by omega
      have HR := Lib.hid (show ofC l = bndC (setS l) by
        rw [HO.out, if_pos]
        rw [List.all_eq_true]
        intro x hx
        obtain ⟨j, hj, rfl⟩ := List.getElem_of_mem hx
        exact HJ.out j _ (by have := hl.out; omega) (List.getElem?_eq_getElem hj))
      have con := S.Of_any q k c l wr hr hq hm
      clear HJ hr h hlt HL HG HO
      go_wp2_with fail
      refine con.mono ?_
      rintro e w4 ⟨v, rfl, hs, hb4⟩
      have con2 := bounded_any v (setS l) w4 hs
      obtain ⟨q4, n4, c4, rfl⟩ := set_form hs
      replace hb := (Keep.of_below hb4).boxed hb hb.lt
      have A4 := hB.trans (hb4.mono hB.size)
      clear con hb4 hs kf
      obtain ⟨r, hr⟩ : ∃ r, bndC (setS l) = r := ⟨_, rfl⟩
      rw [hr] at con2 HR
      clear hr
      go_wp2_with fail
      refine con2.mono ?_
      rintro e w5 ⟨q5, n5, c5, rfl, hs, hb5⟩
      replace hb := (Keep.of_below hb5).boxed hb hb.lt
      have A5 := A4.trans (hb5.mono A4.size)
      have kf := hb.frozen
      have kc := hb.cell
      clear con2 hb5
      go_wp2
      refine bodyPost_ret (ret_cls2 rfl _ _ w.heap.size _ rfl (hb.set _)) rfl ?_
      rw [HR.out]
      exact ⟨q5, n5, c5, rfl, hs.set hb (fun x h => by cases h), A5.setCell (Nat.le_refl _) _⟩

end Go.Proofs.YtfgdikkefgjldaaGreatDoor.Cls

namespace Go.Proofs.YtfgdikkefgjldaaGreatDoor.Cls
open Go.RowKit Go.Shelf Url Org Frm
attribute [local go_sem] Oper.semAt_some

/-- A text, as yield takes it. -/
def StrArg (x : List UInt8) (args : Array Value) (G : Nat → Prop) (_W : World) : Prop := args = #[.string ⟨x.toArray⟩] ∧ G = fun _ => False

theorem All_any (q : Option Addr) (n c : Nat) (w : World) :
    Calls Tryz.prog 12 #[.agg #[.slice q n c]] w fun e w' => e = .returned (.func (.func 29) #[] #[.pointer (some ⟨w.heap.size, 0, none⟩)]) ∧ w' = w.alloc (.cells #[.slice q n c] 28) := by
  go_enter Tryz.func12, Tryz.ntmps12
  go_wp2
  go_ret
  exact ⟨rfl, rfl⟩

theorem setAll_any (q : Option Addr) (n c : Nat) (w : World) :
    Calls Tryz.prog 30 #[.agg #[.slice q n c]] w fun e w' => e = .returned (.func (.func 73) #[] #[.pointer (some ⟨w.heap.size + 1, 0, none⟩)]) ∧
      w' = (w.alloc (.cells #[.slice q n c] 26)).alloc (.cells #[.slice q n c] 22) := by
  have con : ∀ W : World, Calls Tryz.prog 45 #[.slice q n c] W fun e w' => e = .returned (.func (.func 73) #[] #[.pointer (some ⟨W.heap.size, 0, none⟩)]) ∧ w' = W.alloc (.cells #[.slice q n c] 22) := fun W => by
    go_enter Tryz.func45, Tryz.ntmps45
    go_wp2
    go_ret
    exact ⟨rfl, rfl⟩
  go_enter Tryz.func30, Tryz.ntmps30
  go_wp2_with fail
  refine (con _).mono ?_
  rintro e w' ⟨rfl, rfl⟩
  go_wp2
  go_ret
  exact ⟨by simp, rfl⟩

set_option maxRecDepth 100000 in
set_option maxHeartbeats 4000000 in
/-- What All tells: all principals. -/
theorem All1_iter (B : Nat) (q : Option Addr) (n c : Nat) (x : List (List UInt8)) (RB : Nat → Prop) (w0 : World) (hm : n ≤ 140737488355328)
    (h : SlIn encStr w0 q n x) (hq : ∀ a, q = some a → 0 < n → RB a.block) (b : Boxed w0 B 28 (.slice q n c)) (hR : RB B) (hRs : ∀ b, RB b → b < w0.heap.size) :
    IterC Tryz.prog 29 #[.pointer (some ⟨B, 0, none⟩)] StrArg x RB w0 := by
  intro l J Jx W hW hJ hJx hY h0
  refine (callsIn_wide (n := 1)).1 ?_
  refine callsIn_of_wp_marks Tryz.func29 rfl trivial ?_ rfl
  simp only [Tryz.ntmps29, List.size_toArray, List.length_cons, List.length_nil, Nat.reduceAdd, Nat.reduceSub, Array.replicate_succ, Array.replicate_zero, List.push_toArray, List.append_toArray, List.nil_append, List.cons_append]
  have hW0 := hW.size
  have aB := hW.boxed b hR
  have hs1 := h.keep hW hq
  have cB := (aB.alloc (.cells #[.func (.yield l) #[] #[]] 42)).cell
  have con := fun W => setAll_any q n c W
  have hN := Lib.hid (nums_snd 0 x)
  clear h b hW
  gi_wp2_with fail
  refine ⟨trivial, (callsIn_wide.2 (con _)).mono ?_⟩
  rintro e W' ⟨rfl, rfl⟩
  gi_wp2
  obtain ⟨W1, hW1⟩ : ∃ W1, ((W.alloc (.cells #[.func (.yield l) #[] #[]] 42)).alloc (.cells #[.slice q n c] 26)).alloc (.cells #[.slice q n c] 22) = W1 := ⟨_, rfl⟩
  have hk1 : ∀ S, Keep S W W1 := fun S => hW1 ▸ ((Keep.alloc S _ _).trans (Keep.alloc S _ _)).trans (Keep.alloc S _ _)
  have a0 : Boxed W1 W.heap.size 42 (.func (.yield l) #[] #[]) := hW1 ▸ ((Boxed.new W _ _).alloc _).alloc _
  have a2 : Boxed W1 (W.heap.size + 1 + 1) 22 (.slice q n c) := by
    have := Boxed.new ((W.alloc (.cells #[.func (.yield l) #[] #[]] 42)).alloc (.cells #[.slice q n c] 26)) 22 (.slice q n c)
    rw [World.size_alloc, World.size_alloc] at this
    exact hW1 ▸ this
  have hsz : W1.heap.size = W.heap.size + 3 := by rw [← hW1]; simp
  rw [hW1]
  clear hW1 cB con
  obtain ⟨RBin, hRBin⟩ : ∃ RBin : Nat → Prop, RBin = fun b => RB b ∨ b = W.heap.size ∨ b = W.heap.size + 1 + 1 := ⟨_, rfl⟩
  obtain ⟨Ow, hOw⟩ : ∃ Ow : Nat → Prop, Ow = fun b => W.heap.size ≤ b ∧ b < W1.heap.size := ⟨_, rfl⟩
  have hRl : ∀ b, RBin b → b < W1.heap.size := fun b hb => by rw [hRBin] at hb; rcases hb with hb | hb; (have := hRs b hb; omega); omega
  have hRBo : ∀ b, RB b → RBin b := fun b hb => by rw [hRBin]; exact .inl hb
  have hOwR : ∀ b, RBin b → RB b ∨ Ow b := fun b hb => by
    have h1 := hRl b hb
    rw [hRBin] at hb; rw [hOw]
    rcases hb with hb | hb
    · exact .inl hb
    · exact .inr ⟨by omega, h1⟩
  have r0 : RBin W.heap.size := by rw [hRBin]; exact .inr (.inl rfl)
  have r2 : RBin (W.heap.size + 1 + 1) := by rw [hRBin]; exact .inr (.inr rfl)
  have hOwl : ∀ b, Ow b → W.heap.size ≤ b ∧ b < W1.heap.size := fun b hb => by rw [hOw] at hb; exact hb
  clear hRBin hOw
  refine rf_law (gf := 73) (lb := #[.pointer (some ⟨W.heap.size + 1 + 1, 0, none⟩)]) rfl (enters_of Tryz.func73 (by kernel_rfl) rfl)
    (S.All1_iter (W.heap.size + 1 + 1) q n c x RBin W1 hm (hs1.keep (hk1 (fun _ => True)) fun _ _ _ => trivial) (fun a h1 h2 => hRBo _ (hq a h1 h2)) a2 r2) (Keep.refl _ _) hRl (fun x args G W h => by rw [h.1]; rfl)
    (AdI RBin Ow W1 J (List.map Prod.snd) (fun _ _ => True)) (AdX J Jx x) (AdI_abide hJ hRl (fun _ _ _ _ _ => trivial)) (AdX_abide hJ hJx)
    ⟨Keep.refl _ _, (fun _ h => h.elim), trivial, Ow, hJ _ _ _ _ _ h0 (hk1 _) (fun b hb => ⟨.inr (hOwl b hb).1, (hOwl b hb).2⟩), (fun _ h => h.elim), (fun _ h => h), (fun b hb => (hOwl b hb).2)⟩ ?round ?done ?stop
  case round =>
    rintro ll pre ⟨i, t⟩ rest Pv G args Wr hll hxs ⟨hKI, hge, _, Q, hj, hPQ, hOQ, hQl⟩ hPl hGl hPb hGP ⟨rfl, rfl⟩
    gi_wp2
    refine ⟨Keep.refl _ _, fun W2 hk2 hs2 r hr => ?_⟩
    have hlW : W1.heap.size ≤ ll := hge ll hPl
    have j2 : J (pre.map Prod.snd) Q W2 := hJ _ _ _ _ _ hj (hk2.mono fun b _ hb => by rintro rfl; exact hb (hPQ _ hPl)) fun b hb => ⟨.inl hb, by have := hQl b hb; omega⟩
    have k2 : Keep RBin W1 W2 := hKI.trans (hk2.mono fun b _ hb => by have := hRl b hb; omega)
    have hQ2 : ∀ b, Q b → b < W2.heap.size := fun b hb => by have := hQl b hb; omega
    have c0 := (k2.boxed a0 r0).cell
    have hys : x = pre.map Prod.snd ++ t :: rest.map Prod.snd := by
      have e := congrArg (List.map Prod.snd) hxs
      rw [hN.out] at e
      rw [e]; simp
    obtain ⟨fn, tmps, assign, body, hy, hRR⟩ := hY (pre.map Prod.snd) t _ Q (fun _ => False) #[.string ⟨t.toArray⟩] W2 hys j2 hQ2 ⟨rfl, rfl⟩ (fun _ h => h.elim)
    have HYS := Lib.hid hys
    clear hys hxs hY hs2 hr hk2
    gi_wp2_with fail
    refine ⟨rfl, RoundIn.mono hRR ?_⟩
    rintro e W5 ⟨hk5, (⟨rfl, hJ5⟩ | ⟨rfl, hJx5⟩)⟩
    · have hkk : Keep (fun b => RBin b ∨ Pv b) W2 W5 := hk5.mono fun b _ h => h.elim (fun h => (hOwR b h).imp id fun h => ⟨hOQ b h, id⟩) (fun h => .inr ⟨hPQ b h, id⟩)
      have hz5 := hk5.size
      clear hRR hy
      gi_wp2
      refine ⟨hkk, k2.trans (hkk.mono fun b _ h => .inl h), fun b hb => hge b hb, trivial, fun b => Q b ∧ ¬ False, ?_, fun b hb => ⟨hPQ b hb, id⟩, fun b hb => ⟨hOQ b hb, id⟩, fun b hb => by have := hQ2 b hb.1; omega⟩
      rw [List.map_append]
      exact hJ5
    · have hkk : Keep (fun b => RBin b ∨ Pv b) W2 W5 := hk5.mono fun b _ h => h.elim (fun h => (hOwR b h).imp id fun h => ⟨hOQ b h, id⟩) (fun h => .inr ⟨hPQ b h, id⟩)
      have hz5 := hk5.size
      clear hRR hy
      gi_wp2
      exact ⟨hkk, rfl, fun b => Q b ∧ ¬ False, fun b hb => ⟨hPQ b hb, id⟩, fun b hb => by have := hQ2 b hb.1; omega, .inr ⟨_, rest.map Prod.snd, by rw [HYS.out, List.append_assoc]; rfl, hJx5⟩⟩
  case done =>
    rintro D Pv Wd hD hPD hPl ⟨_, hge, _, Q, hj, hPQ, hOQ, hQl⟩ hK
    rw [hN.out] at hj
    gi_wp2
    refine ⟨by simp, .inl ⟨_, _, rfl, run_takeDeferred hK, ?_⟩⟩
    refine ⟨_, results_none rfl _ _ _, ⟨_, rfl⟩, Q, ?_, .inl ?_⟩
    · intro b hb; rw [World.putObj_size]; exact hQl b hb
    · exact hJ _ _ _ _ _ hj (Keep.putObj _ _ _ (fun h => h (hPQ D hPD))) (fun b hb => ⟨.inl hb, by rw [World.putObj_size]; exact hQl b hb⟩)
  case stop =>
    rintro D cc pre rest Pv Wd hD hPD hPl hxs ⟨rfl, Q, hPQ, hQl, hj⟩ hK
    gi_wp2
    refine ⟨by simp, .inl ⟨_, _, rfl, run_takeDeferred hK, ?_⟩⟩
    refine ⟨_, results_none rfl _ _ _, ⟨_, rfl⟩, Q, ?_, ?_⟩
    · intro b hb; rw [World.putObj_size]; exact hQl b hb
    · have hkp : Keep (fun b => ¬ Q b) Wd (Wd.putObj D (.deferred none)) := Keep.putObj _ _ _ (fun h => h (hPQ D hPD))
      have hqp : ∀ b, Q b → (Q b ∨ Wd.heap.size ≤ b) ∧ b < (Wd.putObj D (.deferred none)).heap.size := fun b hb => ⟨.inl hb, by rw [World.putObj_size]; exact hQl b hb⟩
      rcases hj with hj | ⟨pre', rest', he, hj⟩
      · exact .inl (hJ _ _ _ _ _ hj hkp hqp)
      · exact .inr ⟨pre', rest', he, hJx _ _ _ _ _ hj hkp hqp⟩

/-- Between two rounds: what has come lies in the box's row. -/
def ColI (T e : TypeId) (Bo : Nat) (RB : Nat → Prop) (W0 : World) (pre : List (List UInt8)) (Pv : Nat → Prop) (W : World) : Prop :=
  ∃ v, Boxed W Bo T v ∧ W.ownsRow W0.heap.size e 1 v pre.length (pre.map encStr) ∧ (∀ b, Pv b → W0.heap.size ≤ b) ∧ (∀ b, v.ownBlock = some b → ¬ Pv b) ∧ Keep RB W0 W
theorem ColI_abide (T e : TypeId) (Bo : Nat) (RB : Nat → Prop) (W0 : World) (hBo : Bo < W0.heap.size) (hRB : ∀ b, RB b → b < W0.heap.size) : Abide (ColI T e Bo RB W0) := by
  rintro pre Pv Pv' A B ⟨v, h1, h2, h3, h5, h6⟩ hk hp
  have hs := h6.size
  refine ⟨v, hk.boxed h1 (fun h => by have := h3 _ h; omega), hk.row h2 h5, fun b hb => ?_, fun b hb hp' => ?_, h6.trans (hk.mono fun b _ hb hpb => by have := h3 b hpb; have := hRB b hb; omega)⟩
  · rcases (hp b hb).1 with h | h
    · exact h3 b h
    · omega
  · rcases (hp _ hp').1 with h | h
    · exact h5 b hb h
    · have := (h2.lt b hb).2; omega

set_option maxRecDepth 100000 in
set_option maxHeartbeats 4000000 in
theorem AppendSeq_any (gf : Nat) (lb : Array Value) (x : List (List UInt8)) (RB : Nat → Prop) (w : World) (eg : ∀ args w, (callFunc gf args).run Tryz.prog w = .ok (.enter gf args) w)
    (hi : IterC Tryz.prog gf lb StrArg x RB w) (hRs : ∀ b, RB b → b < w.heap.size) (hN : x.length ≤ 1099511627776) :
    Calls Tryz.prog 49 #[.slice none 0 0, .func (.func gf) #[] lb] w fun e w' => ∃ v, e = .returned v ∧ w'.ownsRow w.heap.size 9 1 v x.length (x.map encStr) ∧ Below w.heap.size w w' := by
  obtain ⟨i0, hi0, hz0, hz1, hz2⟩ := info_parts S.info_str
  refine (callsIn_wide (n := 1)).1 ?_
  refine callsIn_of_wp_marks Tryz.func49 rfl trivial ?_ rfl
  simp only [Tryz.ntmps49, List.size_toArray, List.length_cons, List.length_nil, Nat.reduceAdd, Nat.reduceSub, Array.replicate_succ, Array.replicate_zero, List.push_toArray, List.append_toArray, List.nil_append, List.cons_append]
  gi_wp2
  obtain ⟨W0, hW0⟩ : ∃ W0, w.alloc (.cells #[.slice none 0 0] 22) = W0 := ⟨_, rfl⟩
  have b0 : Boxed W0 w.heap.size 22 (.slice none 0 0) := by rw [← hW0]; exact Boxed.new w _ _
  have hB0 : Below w.heap.size w W0 := by rw [← hW0]; exact below_alloc _
  have hs0 : W0.heap.size = w.heap.size + 1 := by rw [← hW0]; simp
  rw [hW0]
  clear hW0
  have hRl : ∀ b, RB b → b < W0.heap.size := fun b hb => by have := hRs b hb; omega
  refine rf_law (gf := gf) (lb := lb) rfl eg hi ((Keep.of_below hB0).mono fun b _ hb => hRs b hb) hRl (fun x args G W h => by rw [h.1]; rfl)
    (ColI 22 9 w.heap.size (fun b => b < w.heap.size) W0) (fun _ _ _ _ => False) (ColI_abide _ _ _ _ _ (by omega) (fun b hb => by omega)) (fun _ _ _ _ _ _ h _ _ => h)
    ⟨_, b0, World.ownsRow_nil _ _ _ _, (fun _ h => h.elim), (fun _ h => by cases h), Keep.refl _ _⟩ ?round ?done ?stop
  case round =>
    rintro ll pre t rest Pv G args Wr hll hxs ⟨v, hbx, hrow, hge, hnv, hKW⟩ hPl hGl hPb hGP ⟨rfl, rfl⟩
    have hlen : pre.length + rest.length + 1 = x.length := by rw [hxs]; simp; omega
    have hpl : pre.length + 1 ≤ 1099511627776 := by omega
    clear hlen
    gi_wp2
    refine ⟨Keep.refl _ _, fun W2 hk2 hs2 r hr => ?_⟩
    have hnP : ∀ b, b < W0.heap.size → ¬ Pv b := fun b hb h => by have := hge b h; omega
    have hk2' : Keep (fun b => ¬ Pv b) Wr W2 := hk2.mono fun b _ hb h => hb (h ▸ hPl)
    replace hbx := hk2'.boxed hbx (hnP _ (by omega))
    replace hrow := hk2'.row hrow hnv
    have hK2 : Keep (fun b => b < w.heap.size) W0 W2 := hKW.trans (hk2'.mono fun b _ hb => hnP b (by omega))
    have hPl2 : ∀ b, Pv b → b < W2.heap.size := fun b hb => by rw [hs2]; exact hPb b hb
    have cB := hbx.cell
    have hszW := hK2.size
    clear hxs hr hk2 hk2' hs2 hKW
    gi_wp2_with (gi_at_builtin; go_must (refine wpListIn_append_own_at _ rfl _ _ 22 rfl W0.heap.size 9 i0 (.string ByteArray.empty) 1 16 Tryz.underlying22 hi0 hz0 hz1 hz2 rfl (by decide) _ _ _ rfl (hrow.alloc _) ⟨W2.heap.size, 0, none⟩ 1 1 [encStr t] rfl rfl (cell_one_new _ _ _) (by simp [encStr, Value.oneCell']) (by unfold maxLen; omega) (by omega) (by simp; omega) ?_); intro v' w1 hown' hgrow _ hat; obtain ⟨g', cap', rfl⟩ := ownsRow_succ hown'; obtain ⟨hv1, hv2, hr2, hkk⟩ := appended_keep (S := fun b => RB b ∨ Pv b ∨ b < w.heap.size) hbx (by decide) hrow (fun h => by rcases h with h | h | h; (have := hRs _ h; omega); exact hnP w.heap.size (by omega) h; omega) (fun b hb h => by have h0 := (hrow.lt b hb).1; rcases h with h | h | h; (have := hRs _ h; omega); exact hnv b hb h; omega) hown' hgrow; have hc1 := hv1.cell; have hf1 := hv1.frozen)
    refine ⟨hkk.mono fun b _ h => h.elim .inl fun h => .inr (.inl h), _, hv2, ?_, fun b hb => hge b hb, fun b hb hp => ?_, hK2.trans (hkk.mono fun b _ h => .inr (.inr h))⟩
    · simpa using hr2
    · rcases hat with h | h
      · exact hnv b (h ▸ hb) hp
      · rw [h] at hb; cases hb; have h5 := hPl2 _ hp; simp at h5; omega
  case done =>
    rintro D Pv Wd hD hPD hPl ⟨v, hbx, hrow, hge, hnv, hKW⟩ hK
    have cB := hbx.cell
    gi_wp2
    have hB : Keep (fun b => b < w.heap.size) w Wd := (Keep.of_below hB0).trans hKW
    refine ⟨by simp, .inl ⟨_, _, rfl, run_takeDeferred hK, ?_⟩⟩
    refine ⟨_, results_tmp rfl _ _ _, v, rfl, row_base ((Keep.putObj (S := fun b => ¬ Pv b) Wd D _ (fun h => h hPD)).row hrow hnv) (by omega), (hB.trans (Keep.putObj _ _ _ (by omega))).below (Nat.le_refl _)⟩
  case stop =>
    rintro D c pre rest Pv Wd _ _ _ _ h _
    exact h.elim

theorem Collect_any (gf : Nat) (lb : Array Value) (x : List (List UInt8)) (RB : Nat → Prop) (w : World) (eg : ∀ args w, (callFunc gf args).run Tryz.prog w = .ok (.enter gf args) w)
    (hi : IterC Tryz.prog gf lb StrArg x RB w) (hRs : ∀ b, RB b → b < w.heap.size) (hN : x.length ≤ 1099511627776) :
    Calls Tryz.prog 33 #[.func (.func gf) #[] lb] w fun e w' => ∃ v, e = .returned v ∧ w'.ownsRow w.heap.size 9 1 v x.length (x.map encStr) ∧ Below w.heap.size w w' := by
  have con := AppendSeq_any gf lb x RB w eg hi hRs hN
  clear hi eg hRs
  go_enter Tryz.func33, Tryz.ntmps33
  go_wp2_with fail
  refine con.mono ?_
  rintro e w' ⟨v, rfl, hrow, hb⟩
  go_wp2
  go_ret
  exact ⟨v, rfl, hrow, hb⟩

theorem join_cls (p : List UInt8) (r : List (List UInt8)) : Lib.join (p :: r) [32, 124, 32] = clsT (p :: r) := by
  rw [Lib.join_cons]
  show p ++ (r.map ([32, 124, 32] ++ ·)).flatten = p ++ r.flatMap fun q => [32, 124, 32] ++ q
  rw [List.flatMap_def]
theorem strs_data (x : List (List UInt8)) : (x.map fun p => (⟨p.toArray⟩ : ByteArray)).map (·.data.toList) = x := by
  rw [List.map_map]
  exact (List.map_congr_left (g := id) fun p _ => rfl).trans (List.map_id x)

set_option maxRecDepth 100000 in
set_option maxHeartbeats 4000000 in
theorem Text_any (v : Value) (x : List (List UInt8)) (w : World) (h : SetIs encStr w v x) (hN : x.length ≤ 1099511627776) (hl : (clsT x).length ≤ 140737488355328) :
    Calls Tryz.prog 14 #[v] w fun e w' => e = .returned (.string ⟨(clsT x).toArray⟩) ∧ Below w.heap.size w w' := by
  obtain ⟨q, n, c, rfl⟩ := set_form h
  obtain ⟨W1, hW1⟩ : ∃ W1, w.alloc (.cells #[.slice q n c] 28) = W1 := ⟨_, rfl⟩
  have A1 : Below w.heap.size w W1 := hW1 ▸ below_alloc _
  have b1 : Boxed W1 w.heap.size 28 (.slice q n c) := hW1 ▸ Boxed.new w _ _
  have c1 := b1.cell
  have h1 := h.below A1
  have con := Len_any _ x W1 h1
  have HW1 := Lib.hid hW1
  clear h hW1
  cases x with
  | nil =>
    clear b1 h1
    go_enter Tryz.func14, Tryz.ntmps14
    go_wp2_with fail
    rw [HW1.out]
    go_wp2_with fail
    refine con.mono ?_
    rintro e w2 ⟨rfl, hb2⟩
    clear con
    go_wp2
    go_ret
    exact ⟨rfl, A1.trans (hb2.mono A1.size)⟩
  | cons p r =>
    have d : (((p :: r).length : Int) == 0) = false := by rw [beq_eq_false_iff_ne]; simp; omega
    rw [← join_cls] at hl ⊢
    have HJ := Lib.hid hl
    have hSD := Lib.hid (strs_data (p :: r))
    have hpos : 0 < (p :: r).length := by simp
    generalize p :: r = x at *
    have HN := Lib.hid hN
    have HP := Lib.hid hpos
    clear hl hN hpos
    generalize hln : x.length = m at con d
    have HM := Lib.hid hln
    clear hln
    go_enter Tryz.func14, Tryz.ntmps14
    go_wp2_with fail
    rw [HW1.out]
    go_wp2_with fail
    refine con.mono ?_
    rintro e w2 ⟨rfl, hb2⟩
    replace b1 := (Keep.of_below hb2).boxed b1 b1.lt
    replace c1 := b1.cell
    have A2 := A1.trans (hb2.mono A1.size)
    have h2 := h1.below hb2
    have con2 := All_any q n c w2
    clear con hb2 h1 A1
    go_wp2_with fail
    refine con2.mono ?_
    rintro e w3 ⟨rfl, rfl⟩
    obtain ⟨q', n', c', he, k1, k2, k3, k4⟩ := h2
    cases he
    have hlen := k3.1
    have k5 := k3.alloc (.cells #[.slice q n c] 28)
    have b3 := Boxed.new w2 28 (.slice q n c)
    have A3 := A2.trans ((below_alloc (w := w2) (.cells #[.slice q n c] 28)).mono A2.size)
    generalize w2.alloc (.cells #[.slice q n c] 28) = W3 at *
    have con3 := Collect_any 29 #[.pointer (some ⟨w2.heap.size, 0, none⟩)] x (fun b => b < W3.heap.size) W3 (enters_of Tryz.func29 (by kernel_rfl) rfl)
      (All1_iter w2.heap.size q n c x _ W3 k2 k5 k5.lt b3 b3.lt (fun _ h => h)) (fun _ h => h) HN.out
    clear con2 k1 k2 k3 k4 k5 b3 hlen c1 b1
    go_wp2_with fail
    refine con3.mono ?_
    rintro e w4 ⟨v4, rfl, hrow, hb4⟩
    obtain ⟨q4, c4, rfl, hc4, _, hs4, _⟩ := slIn_of_owns hrow
    obtain ⟨bk, o, rfl, hbk, hcell⟩ := hs4.at HP.out
    have con4 := Tryz.strings_Join bk o c4 (x.map fun p => ⟨p.toArray⟩) ⟨#[32, 124, 32]⟩ w4 (fun j y hy => by
        rw [List.getElem?_map] at hy
        obtain ⟨z, hz, rfl⟩ := Option.map_eq_some_iff.1 hy
        exact hcell j z hz) hbk (by rw [List.length_map]; have := HN.out; omega) (by rw [List.length_map]; exact hc4) (by rw [hSD.out]; exact HJ.out)
    rw [hSD.out, List.length_map] at con4
    have A4 := A3.trans (hb4.mono A3.size)
    clear con3 hrow hcell hs4 hb4
    go_wp2_with fail
    refine con4.mono ?_
    rintro e w5 ⟨rfl, hb5⟩
    clear con4
    go_wp2
    go_ret
    exact ⟨rfl, A4.trans (hb5.mono A4.size)⟩

end Go.Proofs.YtfgdikkefgjldaaGreatDoor.Cls

namespace Go.Proofs.YtfgdikkefgjldaaGreatDoor.Cls
open Go.RowKit Go.Shelf Url Org Frm
attribute [local go_sem] Oper.semAt_some

theorem conv_by {W : World} {q : Option Addr} {n c : Nat} {l : List UInt8} (h : By W (.slice q n c) l) : (convert 51 9 (.slice q n c)).run Tryz.prog W = .ok (.string ⟨l.toArray⟩) W := by
  obtain ⟨h1, _, _, _, h5⟩ := h.at
  have h := h5.convert (P := Tryz.prog) (by rw [Lib.numsL_length, h1]) c 51 5 9 Tryz.underlying51 Tryz.underlying5 Tryz.underlying9
  rwa [strOfNums_numsL] at h
theorem row_nil {W : World} {base : Nat} {e : TypeId} {size n c m : Nat} {xs : List Value} (h : W.ownsRow base e size (.slice none n c) m xs) : n = 0 ∧ c = 0 := by
  rcases h.2 with ⟨he, _⟩ | ⟨g, cap, cur, he, _⟩
  · cases he; exact ⟨rfl, rfl⟩
  · cases he
theorem by_form {w : World} {v : Value} {l : List UInt8} (h : By w v l) : ∃ q c, v = .slice q l.length c := by
  obtain ⟨q, c, rfl, _⟩ := h
  exact ⟨q, c, rfl⟩
theorem trim_len (l : List UInt8) : (trimB l).length ≤ l.length := by
  unfold trimB
  have h1 := (List.dropWhile_sublist blankB (l := (l.dropWhile blankB).reverse)).length_le
  have h2 := (List.dropWhile_sublist blankB (l := l)).length_le
  rw [List.length_reverse] at *
  omega
/-- cut.Trim. -/
theorem Trim_by (q : Option Addr) (n c : Nat) (l : List UInt8) (w : World) (h : By w (.slice q n c) l) (hn : n ≤ 1099511627775) :
    Calls Tryz.prog 38 #[.slice q n c] w fun e w' => ∃ q' c', e = .returned (.slice q' (trimB l).length c') ∧ By w' (.slice q' (trimB l).length c') (trimB l) ∧ Below w.heap.size w w' := by
  obtain ⟨h1, h2, h3, h4, h5⟩ := h.at
  obtain ⟨f, e, ht⟩ := trims l
  refine (cutTrim_any q n c f e l w h1 hn h2 h5 ht).mono ?_
  rintro e' w' ⟨v', rfl, hr, hb⟩
  rw [← trim_sub l f e ht] at hr
  have hby := By.row hr
  obtain ⟨q', c', rfl⟩ := by_form hby
  exact ⟨q', c', rfl, hby, hb⟩
/-- A block that holds a deferred list is none of a set's. -/
theorem sl_put {w : World} {q : Option Addr} {n : Nat} {x : List (List UInt8)} {D : Nat} {d : Option (List Deferred)} {o : Obj} (h : SlIn encStr w q n x) (hD : w.heap[D]? = some (.deferred d)) : SlIn encStr (w.putObj D o) q n x := by
  refine h.keep (Keep.putObj (S := fun b => b ≠ D) w D o (by simp)) fun a ha h0 e => ?_
  obtain ⟨b, o', he, _, hc⟩ := h.at h0
  rw [ha] at he; cases he
  obtain ⟨y, hy⟩ : ∃ y, x[0]? = some y := ⟨_, List.getElem?_eq_getElem (by rw [h.1]; exact h0)⟩
  have := hc 0 y hy
  simp only at e
  subst e
  simp [World.cell?, hD] at this
theorem set_put {w : World} {v : Value} {x : List (List UInt8)} {D : Nat} {d : Option (List Deferred)} {o : Obj} (h : SetIs encStr w v x) (hD : w.heap[D]? = some (.deferred d)) : SetIs encStr (w.putObj D o) v x := by
  obtain ⟨q, n, c, rfl, h1, h2, h3, h4⟩ := h
  exact ⟨q, n, c, rfl, h1, h2, sl_put h3 hD, h4⟩

/-- What the pieces that have come are without blanks. -/
def trimX (pre : List (Nat × List UInt8)) : List (List UInt8) := pre.map fun p => trimB p.2
theorem trimX_snoc (pre : List (Nat × List UInt8)) (i : Nat) (t : List UInt8) : trimX (pre ++ [(i, t)]) = trimX pre ++ [trimB t] := by unfold trimX; simp
theorem trimX_split (t : List UInt8) : trimX (splitX 124 t) = (Ref.splitL 124 t).map trimB := by
  unfold trimX
  rw [← Host.splitX_snd, List.map_map]; rfl
def SpI (T e : TypeId) (Bo : Nat) (RB : Nat → Prop) (W0 : World) (pre : List (Nat × List UInt8)) (Pv : Nat → Prop) (W : World) : Prop := ColI T e Bo RB W0 (trimX pre) Pv W

theorem parseC_long (t : List UInt8) (h : 4096 < t.length) : parseC t = .inl 3 := by unfold parseC; rw [if_pos h]
theorem parseC_never (t : List UInt8) (h : ¬ 4096 < t.length) (h2 : trimB t = neverS) : parseC t = .inr [] := by unfold parseC; rw [if_neg h, if_pos h2]
theorem parseC_of (t : List UInt8) (h : ¬ 4096 < t.length) (h2 : trimB t ≠ neverS) : parseC t = ofC (trimX (splitX 124 t)) := by unfold parseC; rw [if_neg h, if_neg h2, trimX_split]

set_option maxRecDepth 100000 in
set_option maxHeartbeats 8000000 in
theorem Parse_any (q : Option Addr) (n c : Nat) (t : List UInt8) (w : World) (hby : By w (.slice q n c) t) (hn : n ≤ 1300 ∨ 4096 < n ∧ n ≤ 1099511627775) (hG : Gl w) :
    Calls Tryz.prog 24 #[.slice q n c] w (ClsOut (parseC t) w) := by
  obtain ⟨i0, hi0, hz0, hz1, hz2⟩ := info_parts S.info_str
  have hl := hby.at.1
  obtain ⟨W1, hW1⟩ : ∃ W1, w.alloc (.cells #[.slice none 0 0] 28) = W1 := ⟨_, rfl⟩
  have A1 : Below w.heap.size w W1 := hW1 ▸ below_alloc _
  have bR : Boxed W1 w.heap.size 28 (.slice none 0 0) := hW1 ▸ Boxed.new w _ _
  have hs1 : W1.heap.size = w.heap.size + 1 := by rw [← hW1]; simp
  have HW1 := Lib.hid hW1
  clear hW1
  refine (callsIn_wide (n := 1)).1 ?_
  refine callsIn_of_wp_marks Tryz.func24 rfl trivial ?_ rfl
  simp only [Tryz.ntmps24, List.size_toArray, List.length_cons, List.length_nil, Nat.reduceAdd, Nat.reduceSub, Array.replicate_succ, Array.replicate_zero, List.push_toArray, List.append_toArray, List.nil_append, List.cons_append]
  by_cases hbig : 4096 < n
  · have d : decide ((4096 : Int) < (n : Int)) = true := by simp; omega
    have HR := Lib.hid (parseC_long t (by omega))
    have kf := bR.frozen
    have kc := bR.cell
    clear hby hl hn hG
    gi_wp2_with fail
    rw [HW1.out]
    gi_wp2
    refine ⟨_, ret_cls2 rfl _ _ w.heap.size _ rfl bR, ?_⟩
    rw [HR.out]
    exact ⟨none, 0, 0, rfl, set_nil _, A1⟩
  have hn2 : n ≤ 1300 := by omega
  have d : decide ((4096 : Int) < (n : Int)) = false := by simp; omega
  have hb1 := hby.on A1
  have con := Trim_by q n c t W1 hb1 (by omega)
  have HT := Lib.hid (trim_len t)
  have HG := Lib.hid hG
  have HL := Lib.hid hl
  have HP1 := Lib.hid (fun h2 => parseC_never t (by omega) h2)
  have HP2 := Lib.hid (fun h2 => parseC_of t (by omega) h2)
  clear hby hn hG
  obtain ⟨T, hT⟩ : ∃ T, trimB t = T := ⟨_, rfl⟩
  rw [hT] at con HP1 HP2 HT
  clear hT hbig
  gi_wp2_with fail
  rw [HW1.out]
  gi_wp2_with fail
  refine ⟨trivial, (callsIn_wide.2 con).mono ?_⟩
  rintro e W2 ⟨q2, c2, rfl, hb2, hbel⟩
  have hcv := conv_by hb2
  have hb0 := hb1.on hbel
  replace bR := (Keep.of_below hbel).boxed bR bR.lt
  have A2 := A1.trans (hbel.mono A1.size)
  have hs2 := hbel.size
  have kf := bR.frozen
  have kc := bR.cell
  have e1 : (T == [110, 101, 118, 101, 114]) = decide (T = neverS) := by
    rw [Bool.eq_iff_iff, beq_iff_eq, decide_eq_true_iff]; rfl
  generalize hlT : T.length = m at *
  clear con hb1 hb2 hbel hlT HW1
  by_cases hnv : T = neverS
  · have HR := Lib.hid (HP1.out hnv)
    rw [decide_eq_true hnv] at e1
    clear hnv HP1 HP2 hb0
    gi_wp2
    refine ⟨_, ret_cls2 rfl _ _ w.heap.size _ rfl (bR.set _), ?_⟩
    rw [HR.out]
    exact ⟨none, 0, 0, rfl, set_nil _, A2.setCell (Nat.le_refl _) _⟩
  have HR := Lib.hid (HP2.out hnv)
  rw [decide_eq_false hnv] at e1
  clear hnv HP1 HP2
  obtain ⟨h1, h2, h3, h4, h5⟩ := hb0.at
  obtain ⟨W3, hW3⟩ : ∃ W3, W2.alloc (.cells #[.slice none 0 0] 22) = W3 := ⟨_, rfl⟩
  have b0 : Boxed W3 W2.heap.size 22 (.slice none 0 0) := hW3 ▸ Boxed.new W2 _ _
  have hB3 : Below W2.heap.size W2 W3 := hW3 ▸ below_alloc _
  have hs3 : W3.heap.size = W2.heap.size + 1 := by rw [← hW3]; simp
  have con := Split_any q n c 124 t W3 h1 (by omega) (bytes_keep h5 (Keep.of_below hB3) (fun a h1 h2 => bytes_lt h5 a h1 h2))
  have hsm := Lib.hid (splitX_small 124 t n hl)
  have hlx := Lib.hid (show (splitX 124 t).length ≤ n + 1 by have := splitX_len 124 t; omega)
  have HW3 := Lib.hid hW3
  clear hW3 h1 h2 h3 h4 h5 hb0
  gi_wp2_with fail
  rw [HW3.out]
  refine ⟨trivial, (callsIn_wide.2 con).mono ?_⟩
  rintro e W4 ⟨B, v', rfl, hB, hBc, hrow, hBl, hbel⟩
  have hit := Split_iter (by omega) hB hBc hrow
  obtain ⟨RB, hRB⟩ : ∃ RB : Nat → Prop, RB = fun b => b = B ∨ b = W3.heap.size ∨ v'.ownBlock = some b := ⟨_, rfl⟩
  have hRl : ∀ b, RB b → W2.heap.size + 1 ≤ b ∧ b < W4.heap.size := fun b hb => by
    rw [hRB] at hb
    rcases hb with rfl | rfl | hb
    · exact ⟨by omega, hB.lt⟩
    · exact ⟨by omega, hBc.lt⟩
    · have := hrow.lt b hb; exact ⟨by omega, this.2⟩
  rw [← hRB, hs3] at hit
  have hB4 : Below W2.heap.size W2 W4 := hB3.trans (hbel.mono (by omega))
  replace b0 := (Keep.of_below hbel).boxed b0 (by omega)
  replace bR := (Keep.of_below hB4).boxed bR bR.lt
  have A4 := A2.trans (hB4.mono A2.size)
  have hs4 := hbel.size
  clear con hB hBc hrow hBl hbel HW3 hRB hB3 hB4 kf kc
  generalize splitX 124 t = xs at *
  gi_wp2
  refine rf_law (gf := 56) (lb := #[.pointer (some ⟨B, 0, none⟩), .pointer (some ⟨W2.heap.size + 1, 0, none⟩)]) rfl (enters_of Tryz.func56 (by kernel_rfl) rfl)
    hit (Keep.refl _ _) (fun b hb => (hRl b hb).2) (fun x args G W h => by obtain ⟨v, rfl, _⟩ := h; rfl)
    (SpI 22 9 W2.heap.size (fun b => b < W2.heap.size) W4) (fun _ _ _ _ => False) (fun s Pv Pv' A B h hk hp => ColI_abide _ _ _ _ _ (by omega) (fun b hb => by omega) (trimX s) Pv Pv' A B h hk hp) (fun _ _ _ _ _ _ h _ _ => h)
    ⟨_, b0, World.ownsRow_nil _ _ _ _, (fun _ h => h.elim), (fun _ h => by cases h), Keep.refl _ _⟩ ?round ?done ?stop
  case round =>
    rintro ll pre ⟨xi, x⟩ rest Pv G args Wr hll hxs ⟨v, hbx, hrow, hge, hnv, hKW⟩ hPl hGl hPb hGP ⟨p, rfl, hp, rfl⟩
    have hxl := hsm.out (xi, x) (by rw [hxs]; simp)
    have hpl : pre.length + 1 ≤ n + 1 := by
      have h1 := hlx.out
      rw [hxs, List.length_append, List.length_cons] at h1
      omega
    simp only at hxl hp
    obtain ⟨qx, cx, rfl, _, hnc, hcm, hbs, hblk⟩ := row_open hp
    have hbyx : By Wr (.slice qx x.length cx) x := By.row hp
    clear hxs
    gi_wp2
    refine ⟨Keep.refl _ _, fun W5 hk5 hs5 r hr => ?_⟩
    have hnP : ∀ b, b < W4.heap.size → ¬ Pv b := fun b hb h => by have := hge b h; omega
    have hk5' : Keep (fun b => ¬ Pv b) Wr W5 := hk5.mono fun b _ hb h => hb (h ▸ hPl)
    replace hbx := hk5'.boxed hbx (hnP _ (by omega))
    replace hrow := hk5'.row hrow hnv
    have hK5 : Keep (fun b => b < W2.heap.size) W4 W5 := hKW.trans (hk5'.mono fun b _ hb => hnP b (by omega))
    have hPl5 : ∀ b, Pv b → b < W5.heap.size := fun b hb => by rw [hs5]; exact hPb b hb
    have gx : Keep (fun b => (Value.slice qx x.length cx).ownBlock = some b) Wr W5 := hk5.mono fun b _ hb h => hGl (h ▸ hb)
    have hbs5 : Lib.BytesIn W5 qx x.length (Lib.numsL x) := bytes_keep hbs gx (fun a ha _ => (hblk a ha).2.2)
    have hby5 : By W5 (.slice qx x.length cx) x := by
      obtain ⟨g1, g2, g3, g4, _⟩ := hbyx.at
      exact By.of g1 g2 g3 (fun h => (g4 h).2) hbs5
    have hszW := hK5.size
    have hlen : (trimX pre).length = pre.length := by unfold trimX; simp
    rw [hlen] at hrow
    clear hr hk5 hk5' hs5 hKW hbs hp hbyx hblk gx hbs5
    obtain ⟨Wd, hWd⟩ : ∃ Wd, W5.drew = Wd := ⟨_, rfl⟩
    have hkd : ∀ S, Keep S W5 Wd := fun S => by rw [← hWd]; exact Keep.drew S W5
    replace hbx := (hkd (fun _ => True)).boxed hbx trivial
    replace hrow := (hkd (fun _ => True)).row hrow (fun _ _ => trivial)
    have hbyd : By Wd (.slice qx x.length cx) x := by rw [← hWd]; exact hby5.drew
    have hKd := hK5.trans (hkd _)
    have hszd : Wd.heap.size = W5.heap.size := by rw [← hWd]; rfl
    have con := Trim_by qx x.length cx x Wd hbyd (by omega)
    have HT := Lib.hid (trim_len x)
    have HSN := Lib.hid (trimX_snoc pre xi x)
    generalize trimB x = T at *
    have c0 := hbx.cell
    have HWd := Lib.hid hWd
    clear hWd hby5 hbyd hcv
    gi_wp2_with fail
    refine region_anyO (fun j => decide (j ≠ 6)) (fun X => X.cell? ⟨W2.heap.size, 0, none⟩ = some v) (by kernel_rfl) ?_
    rw [HWd.out]
    refine anyO_take 0 (v := v) rfl (by kernel_rfl) (by kernel_rfl) (by kernel_rfl) (by kernel_rfl) (by kernel_rfl) (fun _ _ _ h => h) ⟨.inl ⟨by rfl, ?_⟩, fun _ => rfl⟩ c0 ?_
    · rintro w h1; go_simp
    refine anyO_one 1 (by kernel_rfl) rfl fun K hK => ?_
    go_simp
    refine hK _ _ (fun _ => c0) ?_
    clear hK K
    refine anyO_one 2 (by kernel_rfl) rfl fun K hK => ?_
    go_simp
    refine ⟨trivial, rfl, (CallsIn.inRound ll (callsIn_wide.2 con)).mono ?_⟩
    rintro e w4 ⟨q4, c4, rfl, hb4, hbel⟩
    have hbx4 := (Keep.of_below hbel).boxed hbx hbx.lt
    have hrow4 := (Keep.of_below hbel).row hrow (fun b hb => (hrow.lt b hb).2)
    have hcv := conv_by hb4
    have hsz4 := hbel.size
    have c4' := hbx4.cell
    refine hK _ _ (fun _ => c4') ?_
    clear hK K con
    refine anyO_one 3 (by kernel_rfl) rfl fun K hK => ?_
    go_simp
    refine hK _ _ (fun _ => c4') ?_
    clear hK K
    refine anyO_one 4 (by kernel_rfl) rfl fun K hK => ?_
    go_simp
    have c5' := (hbx4.alloc (.cells #[.string ⟨T.toArray⟩] 9)).cell
    refine hK _ _ (fun _ => c5') ?_
    clear hK K
    refine anyO_one 5 (by kernel_rfl) rfl fun K hK => ?_
    rw [if_pos (by rfl)]
    refine S.wpIn_append_own _ _ 22 rfl W4.heap.size 9 i0 (.string ByteArray.empty) 1 16 Tryz.underlying22 hi0 hz0 hz1 hz2 rfl (by decide) v pre.length _ rfl (hrow4.alloc _) ⟨w4.heap.size, 0, none⟩ 1 1 [encStr T] rfl rfl (cell_one_new _ _ _) (by simp [encStr, Value.oneCell']) (by unfold maxLen; omega) (by omega) (by simp; omega) ?_
    intro v2 w6 hown' hgrow hat
    obtain ⟨g', cap', rfl⟩ := ownsRow_succ hown'
    obtain ⟨hv1, hv2, hr2, hkk⟩ := appended_keep (S := fun b => RB b ∨ Pv b ∨ b < W2.heap.size) hbx4 (by decide) hrow4 (fun h => by rcases h with h | h | h; (have := hRl _ h; omega); exact hnP W2.heap.size (by omega) h; omega) (fun b hb h => by have h0 := (hrow4.lt b hb).1; rcases h with h | h | h; (have := hRl _ h; omega); exact hnv b hb h; omega) hown' hgrow
    have c6 := hv1.cell
    have f6 := hv1.frozen
    refine hK _ _ (fun _ => c6) ?_
    clear hK K
    refine anyO_one 6 (by kernel_rfl) rfl fun K hK => ?_
    go_simp
    refine hK _ _ (fun h => absurd h (by decide)) ?_
    clear hK K
    refine anyO_done (by kernel_rfl) ?_ _
    clear c6 f6 c5' c4' hcv c0
    gi_wp2
    have hk0 : ∀ S : Nat → Prop, (∀ b, S b → b < Wd.heap.size) → Keep S W5 w4 := fun S hS => (hkd S).trans ((Keep.of_below hbel).mono fun b _ h => hS b h)
    have hRd : ∀ b, RB b ∨ Pv b ∨ b < W2.heap.size → b < Wd.heap.size := fun b hb => by
      rcases hb with h | h | h
      · have := hRl b h; omega
      · rw [hszd]; exact hPl5 b h
      · omega
    have hkk2 := (hk0 _ hRd).trans hkk
    refine ⟨hkk2.mono fun b _ h => h.elim .inl fun h => .inr (.inl h.1), _, hv2, ?_, fun b hb => hge b hb.1, fun b hb hp => ?_, hK5.trans (hkk2.mono fun b _ h => .inr (.inr h))⟩
    · rw [HSN.out, List.length_append, List.length_singleton, hlen]
      simpa using hr2
    · rcases hat with h | h
      · exact hnv b (h ▸ hb) hp.1
      · rw [h] at hb; cases hb; have h5 := hPl5 _ hp.1; simp at h5; omega
  case done =>
    rintro D Pv Wd hD hPD hPl ⟨v, hbx, hrow, hge, hnv, hKW⟩ hK
    obtain ⟨q5, c5, rfl, hc5, _, hs5, _⟩ := slIn_of_owns hrow
    have hA : Keep (fun b => b < W2.heap.size) W4 Wd := hKW
    have bRd := hA.boxed bR (by have := A2.size; omega)
    have hBd : Below w.heap.size w Wd := A4.trans ((hA.mono fun b _ h => by have := A2.size; omega).below A4.size)
    have hxl : ∀ y ∈ trimX xs, y.length ≤ 1300 := fun y hy => by
      obtain ⟨p, hp, rfl⟩ := List.mem_map.1 hy
      have h1 := hsm.out p hp
      have h2 := trim_len p.2
      omega
    have hcnt : (trimX xs).length ≤ 1099511627776 := by
      unfold trimX
      rw [List.length_map]
      have := hlx.out
      omega
    have con := Of_any q5 _ c5 (trimX xs) Wd hs5 (fun h => by subst h; exact (row_nil hrow).2) hcnt hxl (HG.out.on hBd)
    have cB := hbx.cell
    generalize (trimX xs).length = m5 at *
    rw [← HR.out] at con
    have hDl := hPl D hPD
    clear hs5 hrow hbx hnv hge hKW hA hxl hcnt b0 hit
    gi_wp2_with fail
    refine ⟨trivial, (callsIn_wide.2 con).mono ?_⟩
    rintro e w6 ⟨q6, n6, c6, rfl, hs6, hb6⟩
    have hD6 : w6.heap[D]? = some (.deferred (some [])) := (hb6.block D hDl).trans hK
    have bR6 := (Keep.of_below hb6).boxed bRd bRd.lt
    have A6 := hBd.trans (hb6.mono hBd.size)
    have kf := bR6.frozen
    have kc := bR6.cell
    have hs7 := hs6.set (u' := .slice q6 n6 c6) bR6 (fun x h => by cases h)
    have bR7 := bR6.set (.slice q6 n6 c6)
    have hwD : w.heap.size < D := by have := A2.size; omega
    have hD7 : (w6.setCell ⟨w.heap.size, 0, none⟩ (.slice q6 n6 c6)).heap[D]? = some (.deferred (some [])) := (Keep.setCell (S := fun b => b ≠ w.heap.size) w6 _ _ (by simp)).heap (by omega) hD6
    have A7 : Below w.heap.size w (w6.setCell ⟨w.heap.size, 0, none⟩ (.slice q6 n6 c6)) := A6.setCell (Nat.le_refl _) _
    clear con cB hb6
    gi_wp2
    refine ⟨by simp, .inl ⟨_, _, rfl, run_takeDeferred hD7, ?_⟩⟩
    have hkP : ∀ S : Nat → Prop, ¬ S D → Keep S (w6.setCell ⟨w.heap.size, 0, none⟩ (.slice q6 n6 c6)) ((w6.setCell ⟨w.heap.size, 0, none⟩ (.slice q6 n6 c6)).putObj D (.deferred none)) := fun S hS => Keep.putObj _ D _ hS
    refine ⟨_, ret_cls2 rfl _ _ w.heap.size _ rfl ((hkP (fun b => b ≠ D) (by simp)).boxed bR7 (by omega)), q6, n6, c6, rfl, set_put hs7 hD7, ?_⟩
    exact ((Keep.of_below A7).trans (hkP _ (by omega))).below (Nat.le_refl _)
  case stop =>
    rintro D c pre rest Pv Wd _ _ _ _ h _
    exact h.elim

end Go.Proofs.YtfgdikkefgjldaaGreatDoor.Cls

namespace Go.Proofs.YtfgdikkefgjldaaGreatDoor.Cls
open Go.RowKit Go.Shelf Url Org Frm
attribute [local go_sem] Oper.semAt_some

def liveT : List UInt8 := [104, 116, 116, 112, 58, 47, 47, 98, 124, 104, 116, 116, 112, 58, 47, 47, 97]
def liveA : List UInt8 := [104, 116, 116, 112, 58, 47, 47, 97]
def liveB : List UInt8 := [104, 116, 116, 112, 58, 47, 47, 98]
def liveS : List UInt8 := [104, 116, 116, 112, 58, 47, 47, 97, 32, 124, 32, 104, 116, 116, 112, 58, 47, 47, 98]
theorem live_split : (Ref.splitL 124 liveT).map trimB = [liveB, liveA] := by decide +kernel
theorem live_sort : sortR [liveB, liveA] = [liveA, liveB] := by decide +kernel
theorem live_trim : trimB liveT ≠ neverS := by decide +kernel
theorem live_cls : clsT [liveA, liveB] = liveS := by decide +kernel
def placeOf (o : Sum Int U) : Option (List UInt8) := match o with
  | .inr u => some (placeU u)
  | .inl _ => none
theorem prin_host (t : List UInt8) (h : placeOf (canonU t) = some t) (hl : t.length ≤ 4096) (h1 : closedS.isPrefixOf t = false) (h2 : moreB t = false) : prinB t = true := by
  unfold prinB parseQ
  rw [h1, h2, parse_canon t hl]
  cases hc : canonU t with
  | inl n => rw [hc] at h; cases h
  | inr u =>
    rw [hc] at h
    exact decide_eq_true (Option.some.inj h)
theorem live_a : prinB liveA = true := prin_host _ (by decide +kernel) (by decide) (by decide) (by decide)
theorem live_b : prinB liveB = true := prin_host _ (by decide +kernel) (by decide) (by decide) (by decide)
theorem live_parse : parseC liveT = .inr [liveA, liveB] := by
  unfold parseC
  rw [if_neg (by decide), if_neg live_trim, live_split]
  unfold ofC
  rw [if_pos (by simp [live_a, live_b]), live_sort, if_pos (by decide)]

set_option maxRecDepth 100000 in
set_option maxHeartbeats 8000000 in
theorem lives_any (w : World) (hG : Gl w) : Calls Tryz.prog 6 #[] w fun e w' => e = .returned (.bool true) ∧ Below w.heap.size w w' := by
  have kc := fun (w : World) (C : Array Value) (n c : Nat) => Lib.run_convert_bytes_const (P := Tryz.prog) w 51 5 C n c Tryz.underlying51 Tryz.underlying5
  obtain ⟨X0, hX0⟩ : ∃ X0, w.alloc (.cells #[.int .u8 104, .int .u8 116, .int .u8 116, .int .u8 112, .int .u8 58, .int .u8 47, .int .u8 47, .int .u8 98, .int .u8 124, .int .u8 104, .int .u8 116, .int .u8 116, .int .u8 112, .int .u8 58, .int .u8 47, .int .u8 47, .int .u8 97] 5 (17, 18)) = X0 := ⟨_, rfl⟩
  have B_0 : Below w.heap.size w X0 := by rw [← hX0]; exact (Below.refl _ w).alloc (Nat.le_refl _) _
  have hby : By X0 (.slice (some ⟨w.heap.size, 0, none⟩) 17 17) liveT := by rw [← hX0]; exact by_lit w #[.int .u8 104, .int .u8 116, .int .u8 116, .int .u8 112, .int .u8 58, .int .u8 47, .int .u8 47, .int .u8 98, .int .u8 124, .int .u8 104, .int .u8 116, .int .u8 116, .int .u8 112, .int .u8 58, .int .u8 47, .int .u8 47, .int .u8 97] liveT (17, 18) 17 rfl rfl (by decide)
  have con := Parse_any (some ⟨w.heap.size, 0, none⟩) 17 17 liveT X0 hby (by omega) (hG.on B_0)
  rw [live_parse] at con
  have HX0 := Lib.hid hX0
  clear hX0 hby hG
  go_enter Tryz.func6, Tryz.ntmps6
  go_wp2_with fail
  rw [HX0.out]
  refine con.mono ?_
  rintro e X1 ⟨q, n, c, rfl, hs, hb⟩
  have B_1 := B_0.trans (hb.mono B_0.size)
  replace hs : SetIs encStr X1 (.agg #[.slice q n c]) [liveA, liveB] := hs
  clear con hb B_0 HX0
  obtain ⟨X2, hX2⟩ : ∃ X2, X1.alloc (.cells #[.slice q n c] 28) = X2 := ⟨_, rfl⟩
  have hb : Below X1.heap.size X1 X2 := by rw [← hX2]; exact below_alloc _
  have B_2 := B_1.trans (hb.mono B_1.size)
  have con := Text_any _ _ X2 (hs.below hb) (by decide) (by decide)
  rw [live_cls] at con
  have HX2 := Lib.hid hX2
  have e1 : (liveS == ([104, 116, 116, 112, 58, 47, 47, 97, 32, 124, 32, 104, 116, 116, 112, 58, 47, 47, 98] : List UInt8)) = true := by decide
  clear hX2 hb B_1 hs
  unfold errC
  go_wp2_with fail
  rw [HX2.out]
  go_wp2_with fail
  refine con.mono ?_
  rintro e X3 ⟨rfl, hb⟩
  have B_3 := B_2.trans (hb.mono B_2.size)
  clear con hb B_2 HX2
  go_wp2
  go_ret
  exact ⟨(by first | rfl | rw [e1] | simp [e1]), B_3⟩

theorem mk_size (x : List UInt8) : (⟨x.toArray⟩ : ByteArray).size = x.length := by simp [ByteArray.size]
/-- Are texts few, and short? -/
def fewB (l : List (List UInt8)) : Bool := decide (l.length ≤ 24) && l.all fun t => decide (t.length ≤ 60)
theorem few_of (l : List (List UInt8)) (h : fewB l = true) : l.length ≤ 24 ∧ ∀ t ∈ l, t.length ≤ 60 := by
  unfold fewB at h
  rw [Bool.and_eq_true] at h
  exact ⟨of_decide_eq_true h.1, fun t ht => of_decide_eq_true (List.all_eq_true.1 h.2 t ht)⟩

set_option maxRecDepth 100000 in
set_option maxHeartbeats 4000000 in
theorem few_any (q : Option Addr) (n c : Nat) (l : List (List UInt8)) (w : World) (h : SlIn encStr w q n l) :
    Calls Tryz.prog 7 #[.slice q n c] w fun e w' => e = .returned (.bool (fewB l)) ∧ w = w' := by
  have hl := Lib.hid h.1
  by_cases hbig : 24 < n
  · have d : decide ((24 : Int) < (n : Int)) = true := by simp; omega
    have H := Lib.hid (show fewB l = false by unfold fewB; rw [decide_eq_false (by rw [hl.out]; omega)]; rfl)
    clear h
    go_enter Tryz.func7, Tryz.ntmps7
    go_wp2
    go_ret
    exact ⟨(by rw [H.out]; try rfl), rfl⟩
  have d : decide ((24 : Int) < (n : Int)) = false := by simp; omega
  go_enter Tryz.func7, Tryz.ntmps7
  go_wp2
  go_loop [10] (fun i => ∃ k : Nat, k ≤ n ∧ i = .int .i64 k ∧ Hid (∀ j x, j < k → l[j]? = some x → x.length ≤ 60)) (fun i => n - (intOf i).toNat)
  case atStart => exact ⟨0, Nat.zero_le _, rfl, Lib.hid (fun j x h => by omega)⟩
  case round =>
    obtain ⟨k, hk, rfl, HJ⟩ := hrel
    by_cases hlt : k < n
    · obtain ⟨b, o, rfl, _, hc⟩ := h.at (by omega)
      obtain ⟨x, hx, _⟩ := drop_getElem l k (by rw [hl.out]; exact hlt)
      have hck : w.cell? ⟨b, o + k, none⟩ = some (.string ⟨x.toArray⟩) := hc k x hx
      have hsz := mk_size x
      obtain ⟨s, hs⟩ : ∃ s : ByteArray, (⟨x.toArray⟩ : ByteArray) = s := ⟨_, rfl⟩
      rw [hs] at hck hsz
      by_cases h60 : 60 < x.length
      · have d : decide ((60 : Int) < (s.size : Int)) = true := by simp; omega
        have H := Lib.hid (show fewB l = false by
          unfold fewB
          rw [Bool.and_eq_false_iff]
          refine .inr (Bool.eq_false_iff.2 fun ha => ?_)
          have := of_decide_eq_true (List.all_eq_true.1 ha x (List.mem_of_getElem? hx))
          omega)
        clear hx hsz hc hs HJ h
        go_wp2
        go_ret
        exact ⟨(by rw [H.out]; try rfl), rfl⟩
      · have d : decide ((60 : Int) < (s.size : Int)) = false := by simp; omega
        have HJ2 := Lib.hid (show ∀ j y, j < k + 1 → l[j]? = some y → y.length ≤ 60 from fun j y hj hy => by
          by_cases e : j = k
          · subst e; rw [hx] at hy; cases hy; omega
          · exact HJ.out j y (by omega) hy)
        clear hx hsz hc hs HJ h
        go_wp2
        go_round
        case rel => exact ⟨k + 1, by omega, by go_num, HJ2⟩
        case measure => simp [intOf]; omega
    · obtain rfl : k = n := by omega
      have H := Lib.hid (show fewB l = true by
        unfold fewB
        rw [decide_eq_true (by rw [hl.out]; omega), Bool.true_and, List.all_eq_true]
        intro x hx
        obtain ⟨j, hj, rfl⟩ := List.getElem_of_mem hx
        exact decide_eq_true (HJ.out j _ (by have := hl.out; omega) (List.getElem?_eq_getElem hj)))
      clear HJ h
      go_wp2
      go_ret
      exact ⟨(by rw [H.out]; try rfl), rfl⟩

end Go.Proofs.YtfgdikkefgjldaaGreatDoor.Cls
