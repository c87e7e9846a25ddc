/- The texts that these laws rest on, put together, part 4. Conditions: as each says. -/
import Derived.Test.YtpabhppghljipaaGreatDoorBaseC
import Derived.Shelf.SlSortCmp.QuietGrown

namespace Go.Proofs.YtpabhppghljipaaGreatDoor.Org
open Go.RowKit Go.Shelf Url
attribute [local go_sem] Oper.semAt_some

theorem trim_eq {q : Option Addr} {n c : Nat} {t : List UInt8} {w : World} (hby : By w (.slice q n c) t) (h : Lib.hasPrefix t closedS = true) :
    7 ≤ n ∧ Lib.trimPrefixV q n c (Lib.numsL t) (Lib.numsL closedS) = .slice (subA q c 7) (n - 7) (c - 7) := by
  obtain ⟨h1, h2, h3, h4, h5⟩ := hby.at
  have h7 : 7 ≤ n := by
    have := (List.isPrefixOf_iff_prefix.1 h).length_le
    rw [h1] at this; exact this
  refine ⟨h7, ?_⟩
  obtain ⟨b, o, rfl, _⟩ := h5.at (by omega)
  show Lib.bytesTrimPrefix b o n c (Lib.numsL t) (Lib.numsL closedS) = _
  unfold Lib.bytesTrimPrefix Lib.sliceFrom subA
  rw [bytesOf_numsL, bytesOf_numsL, h, if_pos rfl]
  show Value.slice (if c = 7 then _ else _) _ _ = _
  split <;> rfl
theorem trim_no {q : Option Addr} {n c : Nat} {t : List UInt8} {w : World} (hby : By w (.slice q n c) t) (h : Lib.hasPrefix t closedS = false) :
    Lib.trimPrefixV q n c (Lib.numsL t) (Lib.numsL closedS) = .slice q n c := by
  obtain ⟨h1, h2, h3, h4, h5⟩ := hby.at
  unfold Lib.trimPrefixV
  split
  · unfold Lib.bytesTrimPrefix
    rw [bytesOf_numsL, bytesOf_numsL, h, if_neg (by simp)]
  · rfl
theorem Cut_pre (q : Option Addr) (n c : Nat) (t : List UInt8) (X : World) (a : Option Addr) (hby : By X (.slice q n c) t) (hs : By X (.slice a 7 7) closedS) :
    Calls Tryz.prog 117 #[.slice q n c, .slice a 7 7] X fun e w' => e = .returned (.tuple #[if closedS.isPrefixOf t = true then .slice (subA q c 7) (n - 7) (c - 7) else .slice q n c, .bool (closedS.isPrefixOf t)]) ∧ w' = X := by
  obtain ⟨h1, h2, h3, h4, h5⟩ := hby.at
  refine (Tryz.bytes_CutPrefix_all q a n c 7 7 (Lib.numsL t) (Lib.numsL closedS) X (by rw [Lib.numsL_length, h1]) rfl h2 h5 hs.at.2.2.2.2).mono ?_
  rintro e w' ⟨rfl, rfl⟩
  rw [bytesOf_numsL, bytesOf_numsL]
  have e : Lib.hasPrefix t closedS = closedS.isPrefixOf t := rfl
  refine ⟨?_, rfl⟩
  cases hp : closedS.isPrefixOf t with
  | true => rw [(trim_eq hby (e.trans hp)).2, e, hp, if_pos rfl]
  | false => rw [trim_no hby (e.trans hp), e, hp, if_neg (by simp)]

theorem stop_sep (r : List UInt8) : (∀ j, j < (stopL r).length → r.getD j 0 ∉ sepC) ∧ ((stopL r).length = r.length ∨ ((stopL r).length < r.length ∧ r.getD (stopL r).length 0 ∈ sepC)) := by
  have hm : ∀ b : UInt8, stopB b = true ↔ b ∈ sepC := fun b => by unfold stopB sepC; simp [or_assoc]
  obtain ⟨_, h2, h3⟩ := stop_at r
  refine ⟨fun j hj h => ?_, ?_⟩
  · have := stop_mem r _ (h2 j hj)
    rw [(hm _).2 h] at this; cases this
  · rcases h3 with h3 | ⟨h3, h4⟩
    · exact .inl h3
    · exact .inr ⟨h3, (hm _).1 h4⟩
theorem closed_pos (most : Nat) (t : List UInt8) (h : closedS.isPrefixOf t = true) : parseQ most t = closedQ most (t.drop 7) := by unfold parseQ; rw [if_pos h]
theorem closed_neg (most : Nat) (t : List UInt8) (h : closedS.isPrefixOf t = false) : parseQ most t = match parseU t with
  | .inl e => .inl e
  | .inr u => if moreB t = true then .inl 2 else .inr (.inr u) := by
  unfold parseQ; rw [if_neg (by rw [h]; simp)]; rfl

def moreQ (mo : Bool) (u : U) : Sum Int (Sum Nat U) := if mo = true then .inl 2 else .inr (.inr u)
theorem retQ_form (x : Sum Int (Sum Nat U)) : ∃ a0 a1 a2 a3 m, retQ x = .tuple #[.agg #[.string a0, .string a1, .int .i64 a2, .int .i64 a3], .int .i64 m] := by
  rcases x with m | n | u
  · exact ⟨_, _, _, _, _, rfl⟩
  · exact ⟨_, _, _, _, _, rfl⟩
  · exact ⟨_, _, _, _, _, rfl⟩
set_option maxRecDepth 100000 in
set_option maxHeartbeats 8000000 in
theorem parse_any (q : Option Addr) (n c : Nat) (t : List UInt8) (most : Nat) (w : World) (hby : By w (.slice q n c) t) (hn : n ≤ 4096) (hm : most ≤ 9223372036854775807) (hG : Gl w) (hT : ∀ u, parseU t = .inr u → (textU u).length ≤ 4096) :
    Calls Tryz.prog 99 #[.slice q n c, .int .i64 (most : Int)] w fun e w' => e = .returned (retQ (parseQ most t)) ∧ Below w.heap.size w w' := by
  have kc := fun (w : World) (C : Array Value) (n c : Nat) => Lib.run_convert_bytes_const (P := Tryz.prog) w 22 5 C n c Tryz.underlying22 Tryz.underlying5
  obtain ⟨X0, hX0⟩ : ∃ Z, w.alloc (.cells #[.string ⟨#[]⟩, .string ⟨#[]⟩, .int .i64 0, .int .i64 0] 136) = Z := ⟨_, rfl⟩
  have A_0 : Below w.heap.size w X0 := by rw [← hX0]; exact (Below.refl _ w).alloc (Nat.le_refl _) _
  have hO_0 : OB w.heap.size #[.string ⟨#[]⟩, .string ⟨#[]⟩, .int .i64 0, .int .i64 0] X0 := by rw [← hX0]; exact OB.new w _
  have hs0 : X0.heap.size = w.heap.size + 1 := by rw [← hX0, World.size_alloc]
  obtain ⟨X1, hX1⟩ : ∃ Z, X0.alloc (.cells #[.int .u8 99, .int .u8 108, .int .u8 111, .int .u8 115, .int .u8 101, .int .u8 100, .int .u8 58] 5 (7, 8)) = Z := ⟨_, rfl⟩
  have hb : Below X0.heap.size X0 X1 := by rw [← hX1]; exact (Below.refl _ _).alloc (Nat.le_refl _) _
  have B_1 := A_0.trans (hb.mono A_0.size)
  have hO_1 := hO_0.on hb
  have hlit := by_lit X0 #[.int .u8 99, .int .u8 108, .int .u8 111, .int .u8 115, .int .u8 101, .int .u8 100, .int .u8 58] closedS (7, 8) 7 rfl rfl (by decide)
  rw [hX1, hs0] at hlit
  have T_1 := hby.on B_1
  have con := Cut_pre q n c t X1 _ T_1 hlit
  have kc1 := kc (w.alloc (.cells #[.string ⟨#[]⟩, .string ⟨#[]⟩, .int .i64 0, .int .i64 0] 136)) #[.int .u8 99, .int .u8 108, .int .u8 111, .int .u8 115, .int .u8 101, .int .u8 100, .int .u8 58] 7 7
  rw [World.size_alloc] at kc1
  have HX0 := Lib.hid hX0
  have HX1 := Lib.hid hX1
  have HG := Lib.hid hG
  have HS0 := Lib.hid hs0
  have hTl := hby.at.1
  clear hX0 hX1 hlit hby hG A_0 hO_0 hb hs0
  cases hp : closedS.isPrefixOf t with
  | true =>
    rw [hp, if_pos rfl] at con
    have h7 : 7 ≤ n := (trim_eq T_1 hp).1
    have con2 := parseClosed_any (subA q c 7) (n - 7) (c - 7) (t.drop 7) most X1 (T_1.drop h7) (by omega) hm
    rw [closed_pos most t hp]
    obtain ⟨a0, a1, a2, a3, m, hr⟩ := retQ_form (closedQ most (t.drop 7))
    rw [hr] at con2
    have HR := Lib.hid hr
    clear hr hp T_1 hTl
    go_enter Tryz.func99, Tryz.ntmps99
    go_wp2_with fail
    rw [HX0.out, HX1.out]
    refine con.mono ?_
    rintro e w1 ⟨rfl, rfl⟩
    clear con
    go_wp2_with fail
    refine con2.mono ?_
    rintro e w2 ⟨rfl, hb⟩
    have B_2 := B_1.trans (hb.mono B_1.size)
    have hO_2 := hO_1.on hb
    clear con2 hb hO_1 B_1 HX0 HX1
    have z0 := hO_2.box 0 _ rfl
    have z1 := hO_2.box 1 _ rfl
    have z2 := hO_2.box 2 _ rfl
    have z3 := hO_2.box 3 _ rfl
    have f0 := hO_2.frozen 0
    have f1 := hO_2.frozen 1
    have f2 := hO_2.frozen 2
    have f3 := hO_2.frozen 3
    go_wp2
    obtain ⟨Y, hY, hU, hkY, hbY⟩ := OB.put hO_2 (.string a0) (.string a1) (.int .i64 a2) (.int .i64 a3)
    rw [hY]
    (try simp only [Exit.inBlock, Exit.then])
    refine bodyPost_ret (ret_org2 rfl _ _ w.heap.size _ rfl hU rfl) rfl ?_
    exact ⟨by rw [HR.out]; rfl, B_2.trans (hbY _ (Nat.le_refl _))⟩
  | false =>
    rw [hp, if_neg (by simp)] at con
    rw [closed_neg most t hp]
    have hpc := parse_canon t (by omega)
    have con2 := Parse_of canonOk q n c t X1 T_1 hn (HG.out.on B_1) (fun u hu => hT u (hpc.trans hu))
    cases hc : canonU t with
    | inl m =>
      rw [hpc, hc]
      rw [hc] at con2
      clear hc hpc hp hT T_1 hTl
      go_enter Tryz.func99, Tryz.ntmps99
      go_wp2_with fail
      rw [HX0.out, HX1.out]
      refine con.mono ?_
      rintro e w1 ⟨rfl, rfl⟩
      clear con
      go_wp2_with fail
      refine con2.mono ?_
      rintro e w2 ⟨hm0, rfl, hb⟩
      have e1 : ((m : Int) != 0) = true := by rw [bne_iff_ne]; exact hm0
      have B_2 := B_1.trans (hb.mono B_1.size)
      have hO_2 := hO_1.on hb
      have A_3 := (Below.refl _ w2).alloc (Nat.le_refl _) (.cells zeroU 163)
      have B_3 := B_2.trans (A_3.mono B_2.size)
      have hO_3 := hO_2.on A_3
      unfold zeroU at *
      clear con2 hb hO_1 B_1 HX0 HX1 hm0
      have z0 := hO_3.box 0 _ rfl
      have z1 := hO_3.box 1 _ rfl
      have z2 := hO_3.box 2 _ rfl
      have z3 := hO_3.box 3 _ rfl
      have f0 := hO_3.frozen 0
      have f1 := hO_3.frozen 1
      have f2 := hO_3.frozen 2
      have f3 := hO_3.frozen 3
      go_wp2
      obtain ⟨Y, hY, hU, hkY, hbY⟩ := OB.put hO_3 (.string ⟨#[]⟩) (.string ⟨#[]⟩) (.int .i64 0) (.int .i64 0)
      rw [hY]
      (try simp only [Exit.inBlock, Exit.then])
      refine bodyPost_ret (ret_org2 rfl _ _ w.heap.size _ rfl hU rfl) rfl ?_
      exact ⟨rfl, B_3.trans (hbY _ (Nat.le_refl _))⟩
    | inr u =>
      rw [hpc, hc]
      rw [hc] at con2
      obtain ⟨s, r, hsep, hsm⟩ := parse_sep t u (hpc.trans hc)
      rcases sep_cases t with ⟨hk, hsp⟩ | ⟨k, hk, hkl, hsp⟩
      · rw [hsep] at hsp; cases hsp
      rw [hsep] at hsp
      obtain ⟨rfl, rfl⟩ := Prod.mk.inj (Option.some.inj hsp)
      have hmore : moreB t = decide ((stopL (t.drop (k + 3))).length < (t.drop (k + 3)).length) := by unfold moreB; rw [hsep]
      simp only
      rw [hmore]
      have hdl : (t.drop (k + 3)).length = n - (k + 3) := by rw [List.length_drop]; omega
      obtain ⟨hst1, hst2⟩ := stop_sep (t.drop (k + 3))
      have hst3 := (stop_at (t.drop (k + 3))).2.1
      have conK := fun X (hX : By X (.slice q n c) t) => ContainsAny_sep (subA q c (k + 3)) (n - (k + 3)) (c - (k + 3)) (stopL (t.drop (k + 3))).length (t.drop (k + 3)) X (hX.drop (by omega)) (by omega) (fun j hj => ⟨hsm _ (hst3 j hj), hst1 j hj⟩) (by rw [← hdl]; exact hst2)
      have hcs := cut_some (q := q) (n := n) (c := c) hk
      rw [hdl]
      clear hc hpc hp hT hsep hsp hmore hst1 hst2 hst3 hsm hk
      generalize (stopL (t.drop (k + 3))).length = K at *
      generalize decide (K < n - (k + 3)) = mo at *
      show Calls _ _ _ _ fun e w' => e = .returned (retQ (moreQ mo u)) ∧ _
      have HK := Lib.hid conK
      have HCS := Lib.hid hcs
      clear conK hcs hdl
      go_enter Tryz.func99, Tryz.ntmps99
      go_wp2_with fail
      rw [HX0.out, HX1.out]
      refine con.mono ?_
      rintro e w1 ⟨rfl, rfl⟩
      clear con
      go_wp2_with fail
      refine con2.mono ?_
      rintro e X2 ⟨v, rfl, hin, hb⟩
      have B_2 := B_1.trans (hb.mono B_1.size)
      have hO_2 := hO_1.on hb
      have T_2 := T_1.on hb
      clear con2 hb hO_1 B_1 HX0 HX1 T_1
      obtain ⟨q0, n0, c0, q1, n1, c1, q3, n3, c3, q4, n4, c4, q5, n5, c5, rfl, _⟩ := id hin
      obtain ⟨X3, hX3⟩ : ∃ Z, X2.alloc (.cells #[.slice q0 n0 c0, .slice q1 n1 c1, .int .i64 u.port, .slice q3 n3 c3, .slice q4 n4 c4, .slice q5 n5 c5, .bool u.hq, .bool u.hf] 163) = Z := ⟨_, rfl⟩
      obtain ⟨b8, hb8⟩ : ∃ b, X2.heap.size = b := ⟨_, rfl⟩
      have U_3 : UB b8 #[.slice q0 n0 c0, .slice q1 n1 c1, .int .i64 u.port, .slice q3 n3 c3, .slice q4 n4 c4, .slice q5 n5 c5, .bool u.hq, .bool u.hf] X3 := by rw [← hX3, ← hb8]; exact UB.new X2 _
      have hb : Below X2.heap.size X2 X3 := by rw [← hX3]; exact (Below.refl _ _).alloc (Nat.le_refl _) _
      have B_3 := B_2.trans (hb.mono B_2.size)
      have hO_3 := hO_2.on hb
      have T_3 := T_2.on hb
      have I_3 := hin.on hb
      have hs3 : X3.heap.size = b8 + 1 := by rw [← hX3, ← hb8, World.size_alloc]
      have HX3 := Lib.hid hX3
      have HB8 := Lib.hid hb8
      clear hX3 hb8 hb hO_2 B_2 T_2 hin
      obtain ⟨X4, hX4⟩ : ∃ Z, X3.alloc (.cells #[.int .u8 58, .int .u8 47, .int .u8 47] 5 (3, 4)) = Z := ⟨_, rfl⟩
      have hb : Below X3.heap.size X3 X4 := by rw [← hX4]; exact (Below.refl _ _).alloc (Nat.le_refl _) _
      have hlit := bytes_lit (w := X3) #[.int .u8 58, .int .u8 47, .int .u8 47] sepS (3, 4) rfl
      rw [hX4, hs3] at hlit
      have B_4 := B_3.trans (hb.mono B_3.size)
      have hO_4 := hO_3.on hb
      have T_4 := T_3.on hb
      have I_4 := I_3.on hb
      have U_4 := U_3.on hb
      have con := Cut_any q (some ⟨b8 + 1, 0, none⟩) n c 3 t X4 T_4 (by omega) (HG.out.on B_4) hlit
      rw [HCS.out] at con
      have kc3 := kc (X2.alloc (.cells #[.slice q0 n0 c0, .slice q1 n1 c1, .int .i64 u.port, .slice q3 n3 c3, .slice q4 n4 c4, .slice q5 n5 c5, .bool u.hq, .bool u.hf] 163)) #[.int .u8 58, .int .u8 47, .int .u8 47] 3 3
      rw [World.size_alloc] at kc3
      have HX4 := Lib.hid hX4
      clear hX4 hs3 hb hO_3 B_3 T_3 I_3 U_3 hlit
      go_wp2_with fail
      rw [HB8.out, HX3.out, HX4.out]
      refine con.mono ?_
      rintro e X5 ⟨rfl, m, hX5⟩
      have hb : Below X4.heap.size X4 X5 := by rw [hX5]; exact Url.below_drewN _ _
      have B_5 := B_4.trans (hb.mono B_4.size)
      have hO_5 := hO_4.on hb
      have T_5 := T_4.on hb
      have I_5 := I_4.on hb
      have U_5 := U_4.on hb
      clear con hX5 hb hO_4 B_4 T_4 I_4 U_4 HX3 HX4 kc3
      have con := HK.out X5 T_5
      go_wp2_with fail
      refine con.mono ?_
      rintro e X6 ⟨rfl, hb⟩
      have B_6 := B_5.trans (hb.mono B_5.size)
      have hO_6 := hO_5.on hb
      have I_6 := I_5.on hb
      have U_6 := U_5.on hb
      clear con hb hO_5 B_5 T_5 I_5 U_5 HK
      cases mo with
      | true =>
        have z0 := hO_6.box 0 _ rfl
        have z1 := hO_6.box 1 _ rfl
        have z2 := hO_6.box 2 _ rfl
        have z3 := hO_6.box 3 _ rfl
        have f0 := hO_6.frozen 0
        have f1 := hO_6.frozen 1
        have f2 := hO_6.frozen 2
        have f3 := hO_6.frozen 3
        go_wp2
        obtain ⟨Y, hY, hU, hkY, hbY⟩ := OB.put hO_6 (.string ⟨#[]⟩) (.string ⟨#[]⟩) (.int .i64 0) (.int .i64 0)
        rw [hY]
        (try simp only [Exit.inBlock, Exit.then])
        refine bodyPost_ret (ret_org2 rfl _ _ w.heap.size _ rfl hU rfl) rfl ?_
        exact ⟨rfl, B_6.trans (hbY _ (Nat.le_refl _))⟩
      | false =>
        have con := Of_any u _ X6 I_6
        unfold orgV at con
        have x0 := U_6.box 0 _ rfl
        have x1 := U_6.box 1 _ rfl
        have x2 := U_6.box 2 _ rfl
        have x3 := U_6.box 3 _ rfl
        have x4 := U_6.box 4 _ rfl
        have x5 := U_6.box 5 _ rfl
        have x6 := U_6.box 6 _ rfl
        have x7 := U_6.box 7 _ rfl
        go_wp2_with fail
        refine con.mono ?_
        rintro e X7 ⟨rfl, hb⟩
        have B_7 := B_6.trans (hb.mono B_6.size)
        have hO_7 := hO_6.on hb
        clear con hb hO_6 B_6 I_6 U_6 x0 x1 x2 x3 x4 x5 x6 x7
        have z0 := hO_7.box 0 _ rfl
        have z1 := hO_7.box 1 _ rfl
        have z2 := hO_7.box 2 _ rfl
        have z3 := hO_7.box 3 _ rfl
        have f0 := hO_7.frozen 0
        have f1 := hO_7.frozen 1
        have f2 := hO_7.frozen 2
        have f3 := hO_7.frozen 3
        go_wp2
        obtain ⟨Y, hY, hU, hkY, hbY⟩ := OB.put hO_7 (.string ⟨u.scheme.toArray⟩) (.string ⟨u.host.toArray⟩) (.int .i64 u.port) (.int .i64 0)
        rw [hY]
        (try simp only [Exit.inBlock, Exit.then])
        refine bodyPost_ret (ret_org2 rfl _ _ w.heap.size _ rfl hU rfl) rfl ?_
        exact ⟨rfl, B_7.trans (hbY _ (Nat.le_refl _))⟩

end Go.Proofs.YtpabhppghljipaaGreatDoor.Org

namespace Go.Proofs.YtpabhppghljipaaGreatDoor.Org
open Go.RowKit Go.Shelf Url
attribute [local go_sem] Oper.semAt_some

/-- What an origin is as a value. -/
def valQ : Sum Nat U → Value
  | .inl n => orgV [] [] 0 (n : Int)
  | .inr u => orgV u.scheme u.host u.port 0
theorem retQ_inr (x : Sum Nat U) : retQ (.inr x) = .tuple #[valQ x, .int .i64 0] := by cases x <;> rfl
/-- It is one: a number from 1 on, or a URL in its one form. -/
def QOk : Sum Nat U → Prop
  | .inl n => 1 ≤ n ∧ n ≤ 9223372036854775807
  | .inr u => Ok u
theorem Text_val (x : Sum Nat U) (h : QOk x) (w : World) (hG : Gl w) :
    Calls Tryz.prog 100 #[valQ x] w fun e w' => e = .returned (.string ⟨(textO x).toArray⟩) ∧ Below w.heap.size w w' := by
  cases x with
  | inl n => exact Text_closed n h.1 h.2 w hG
  | inr u => exact Text_server u h w hG
theorem val_form (x : Sum Nat U) : ∃ a0 a1 a2 a3, valQ x = .agg #[.string a0, .string a1, .int .i64 a2, .int .i64 a3] := by
  cases x <;> exact ⟨_, _, _, _, rfl⟩

end Go.Proofs.YtpabhppghljipaaGreatDoor.Org

namespace Go.Proofs.YtpabhppghljipaaGreatDoor.Org
open Go.RowKit Go.Shelf Url
set_option linter.unusedVariables false

theorem rest_err (s r : List UInt8) (n : Int) (h : restU s r = .inl n) : n ≠ 0 := by
  unfold restU at h
  simp only at h
  split at h
  · rename_i hh
    cases h; exact hh
  · split at h
    · cases h
    · cases h; decide
theorem parse_err (t : List UInt8) (n : Int) (h : parseU t = .inl n) : n ≠ 0 := by
  unfold parseU at h
  split at h
  · cases h; decide
  · split at h
    · cases h; decide
    · split at h
      · exact rest_err _ _ _ h
      · cases h; decide
theorem Q_err (most : Nat) (t : List UInt8) (n : Int) (h : parseQ most t = .inl n) : n ≠ 0 := by
  unfold parseQ at h
  split at h
  · unfold closedQ at h
    split at h
    · split at h
      · cases h
      · cases h; decide
    · cases h; decide
  · split at h
    · rename_i e he
      cases h; exact parse_err t _ he
    · split at h
      · cases h; decide
      · cases h
end Go.Proofs.YtpabhppghljipaaGreatDoor.Org

namespace Go.Proofs.YtpabhppghljipaaGreatDoor.Cls
open Go.RowKit Go.Shelf Url Org
attribute [local go_sem] Oper.semAt_some

theorem prin_err (t : List UInt8) (n : Int) (h : parseQ 9223372036854775807 t = .inl n) : prinB t = false := by unfold prinB; rw [h]
theorem prin_is (t : List UInt8) (x : Sum Nat U) (h : parseQ 9223372036854775807 t = .inr x) : prinB t = decide (textO x = t) := by unfold prinB; rw [h]
theorem q_ok (t : List UInt8) (x : Sum Nat U) (h : parseQ 9223372036854775807 t = .inr x) : QOk x := by
  rcases Q_in _ t x h with ⟨n, rfl, h1, h2⟩ | ⟨u, rfl, hu⟩
  · exact ⟨h1, h2⟩
  · exact parse_ok t u hu
set_option maxRecDepth 100000 in
set_option maxHeartbeats 8000000 in
theorem Principal_any (t : List UInt8) (w : World) (hn : t.length ≤ 1300) (hG : Gl w) :
    Calls Tryz.prog 82 #[.string ⟨t.toArray⟩] w fun e w' => e = .returned (.bool (prinB t)) ∧ Below w.heap.size w w' := by
  obtain ⟨c, X, k0, hby, B1, -⟩ := conv_new w t (by omega)
  have con := parse_any (some ⟨w.heap.size, 0, none⟩) t.length c t 9223372036854775807 X hby (by omega) (by omega) (hG.on B1) (fun u hu => by have := text_len t u hu; omega)
  have HG := Lib.hid hG
  cases hq : parseQ 9223372036854775807 t with
  | inl n =>
    have HP := Lib.hid (prin_err t n hq)
    have e1 : ((n : Int) == 0) = false := by rw [beq_eq_false_iff_ne]; exact Q_err _ t n hq
    rw [hq] at con
    unfold retQ orgV at con
    clear hby hG hq
    go_enter Tryz.func82, Tryz.ntmps82
    go_wp2_with fail
    (try rw [k0])
    go_wp2_with fail
    refine con.mono ?_
    rintro e X2 ⟨rfl, hb⟩
    have B2 := B1.trans (hb.mono B1.size)
    have B3 := B2.alloc B2.size (.cells #[.string ⟨#[]⟩, .string ⟨#[]⟩, .int .i64 0, .int .i64 0] 136)
    clear hb B1 B2 k0 con
    go_wp2
    go_ret
    exact ⟨by rw [HP.out]; try rfl, B3⟩
  | inr x =>
    have HP := Lib.hid (prin_is t x hq)
    have con2 := fun Y (hY : Gl Y) => Text_val x (q_ok t x hq) Y hY
    rw [hq, retQ_inr] at con
    obtain ⟨a0, a1, a2, a3, hv⟩ := val_form x
    rw [hv] at con con2
    have e2 := strs_eq (textO x) t
    generalize textO x = T at *
    have HC := Lib.hid con2
    clear hby hG hq hv con2
    obtain ⟨z, hz⟩ : ∃ z, decide (T = t) = z := ⟨_, rfl⟩
    have e3 : (T == t) = z := by rw [← hz, Bool.eq_iff_iff, beq_iff_eq, decide_eq_true_iff]
    rw [hz] at HP e2
    clear hz
    go_enter Tryz.func82, Tryz.ntmps82
    go_wp2_with fail
    (try rw [k0])
    go_wp2_with fail
    refine con.mono ?_
    rintro e X2 ⟨rfl, hb⟩
    have B2 := B1.trans (hb.mono B1.size)
    have A3 := (Below.refl _ X2).alloc (Nat.le_refl _) (.cells #[.string a0, .string a1, .int .i64 a2, .int .i64 a3] 136)
    have hN := OB.new X2 #[.string a0, .string a1, .int .i64 a2, .int .i64 a3]
    have B3 := B2.trans (A3.mono B2.size)
    have n0 := hN.box 0 _ rfl
    have n1 := hN.box 1 _ rfl
    have n2 := hN.box 2 _ rfl
    have n3 := hN.box 3 _ rfl
    have con := HC.out _ (HG.out.on B3)
    clear hb B1 B2 A3 k0 hN
    go_wp2_with fail
    refine con.mono ?_
    rintro e X4 ⟨rfl, hb⟩
    clear con
    go_wp2
    go_ret
    exact ⟨by rw [HP.out, ← e3]; try rfl, B3.trans (hb.mono B3.size)⟩

end Go.Proofs.YtpabhppghljipaaGreatDoor.Cls

namespace Go.Proofs.YtpabhppghljipaaGreatDoor.Cls
open Go.RowKit Go.Shelf Url Org Frm
attribute [local go_sem] Oper.semAt_some

def errC {α : Type} : Sum Int α → Int
  | .inl n => n
  | .inr _ => 0
def valC {α : Type} : Sum Int (List α) → List α
  | .inl _ => []
  | .inr x => x
theorem set_nil (w : World) : SetIs encStr w (.agg #[.slice none 0 0]) [] := ⟨none, 0, 0, rfl, Nat.le_refl _, Nat.zero_le _, SlIn.nil _ _ _, Rises.nil⟩
theorem set_form {w : World} {v : Value} {x : List (List UInt8)} (h : SetIs encStr w v x) : ∃ q n c, v = .agg #[.slice q n c] := by
  obtain ⟨q, n, c, rfl, _⟩ := h
  exact ⟨q, n, c, rfl⟩
theorem set_keep {w w' : World} {v : Value} {x : List (List UInt8)} (h : SetIs encStr w v x) (hk : Keep (· < w.heap.size) w w') : SetIs encStr w' v x := by
  obtain ⟨q, n, c, rfl, h1, h2, h3, h4⟩ := h
  exact ⟨q, n, c, rfl, h1, h2, h3.keep hk h3.lt, h4⟩
theorem ret_cls2 {fn : Func} {p u : Tmp} (h : fn.results = #[.cell p 84, .tmp u]) (tmps : Array Value) (w : World) (B : Nat) (v : Value) (hp : tmps.getD p undef = .pointer (some ⟨B, 0, none⟩)) (hU : Boxed w B 84 v) :
    (results fn tmps).run Tryz.prog w = .ok (.tuple #[.agg #[v], tmps.getD u undef]) w := by
  rw [results_cell_tmp h, hp]
  simp [asAddr, Result.andThen, run_loadVar_row w B 84 _ #[v] (0, 0) _ hU Tryz.underlying84 rfl (by kernel_rfl)]

set_option maxHeartbeats 1000000 in
theorem Implies_any (v1 v2 : Value) (x y : List (List UInt8)) (w : World) (h1 : SetIs encStr w v1 x) (h2 : SetIs encStr w v2 y) (l1 : x.length ≤ 1099511627776) (l2 : y.length ≤ 1099511627776) :
    Calls Tryz.prog 79 #[v1, v2] w fun e w' => e = .returned (.bool (subB x y)) ∧ Below w.heap.size w w' := by
  obtain ⟨q1, n1, c1, rfl⟩ := set_form h1
  obtain ⟨q2, n2, c2, rfl⟩ := set_form h2
  have A1 := below_alloc (w := w) (.cells #[.slice q1 n1 c1] 84)
  have A2 := A1.trans ((below_alloc (w := w.alloc (.cells #[.slice q1 n1 c1] 84)) (.cells #[.slice q2 n2 c2] 84)).mono A1.size)
  have con := S.Sub_any _ _ x y _ (h1.below A2) (h2.below A2) l1 l2
  clear h1 h2
  go_enter Tryz.func79, Tryz.ntmps79
  go_wp2_with fail
  refine con.mono ?_
  rintro e w' ⟨rfl, hb⟩
  go_wp2
  go_ret
  exact ⟨rfl, A2.trans (hb.mono A2.size)⟩

/-- A set of at most 16 principals, or the error. -/
def bndC (x : List (List UInt8)) : Sum Int (List (List UInt8)) := if x.length ≤ 16 then .inr x else .inl 3
theorem ofC_bnd (l : List (List UInt8)) : ofC l = if l.all prinB = true then bndC (setS l) else .inl 2 := by
  unfold ofC bndC; rw [setS_sort]
end Go.Proofs.YtpabhppghljipaaGreatDoor.Cls

namespace Go.Proofs.YtpabhppghljipaaGreatDoor.Cls
open Go.RowKit Go.Shelf Url Org Frm
attribute [local go_sem] Oper.semAt_some

/-- Between two rounds: what has come lies in the box's row. -/
def ColI (T e : TypeId) (Bo : Nat) (RB : Nat → Prop) (W0 : World) (pre : List (List UInt8)) (Pv : Nat → Prop) (W : World) : Prop :=
  ∃ v, Boxed W Bo T v ∧ W.ownsRow W0.heap.size e 1 v pre.length (pre.map encStr) ∧ (∀ b, Pv b → W0.heap.size ≤ b) ∧ (∀ b, v.ownBlock = some b → ¬ Pv b) ∧ Keep RB W0 W
theorem ColI_abide (T e : TypeId) (Bo : Nat) (RB : Nat → Prop) (W0 : World) (hBo : Bo < W0.heap.size) (hRB : ∀ b, RB b → b < W0.heap.size) : Abide (ColI T e Bo RB W0) := by
  rintro pre Pv Pv' A B ⟨v, h1, h2, h3, h5, h6⟩ hk hp
  have hs := h6.size
  refine ⟨v, hk.boxed h1 (fun h => by have := h3 _ h; omega), hk.row h2 h5, fun b hb => ?_, fun b hb hp' => ?_, h6.trans (hk.mono fun b _ hb hpb => by have := h3 b hpb; have := hRB b hb; omega)⟩
  · rcases (hp b hb).1 with h | h
    · exact h3 b h
    · omega
  · rcases (hp _ hp').1 with h | h
    · exact h5 b hb h
    · have := (h2.lt b hb).2; omega

end Go.Proofs.YtpabhppghljipaaGreatDoor.Cls

namespace Go.Proofs.YtpabhppghljipaaGreatDoor.Frm
open Go.RowKit Go.Shelf Url Org Cls
attribute [local go_sem] Oper.semAt_some

/-- A clause as it lies in memory, and what it is. -/
abbrev Cl := (Option Addr × Nat × Nat) × List (List UInt8)
def encC (z : Cl) : Value := .slice z.1.1 z.1.2.1 z.1.2.2
/-- It reads so in w. -/
structure ClAt (w : World) (z : Cl) : Prop where
  set : SetIs encStr w (.agg #[encC z]) z.2
  few : z.2.length ≤ 16
theorem ClAt.keep {w w' : World} {z : Cl} (h : ClAt w z) (hk : Keep (· < w.heap.size) w w') : ClAt w' z := ⟨set_keep h.set hk, h.few⟩
theorem ClAt.below {w w' : World} {z : Cl} (h : ClAt w z) (hb : Below w.heap.size w w') : ClAt w' z := h.keep (Keep.of_below hb)
theorem ClAt.rise {w : World} {z : Cl} (h : ClAt w z) : Rises z.2 := by
  obtain ⟨q, n, c, _, _, _, _, h4⟩ := h.set
  exact h4
/-- The row at q, of n cells, is of these clauses. -/
def ClsIn (w : World) (q : Option Addr) (n : Nat) (xs : List (List (List UInt8))) : Prop := ∃ zs : List Cl, SlIn encC w q n zs ∧ (∀ z ∈ zs, ClAt w z) ∧ xs = zs.map Prod.snd
theorem ClsIn.nil (w : World) (q : Option Addr) : ClsIn w q 0 [] := ⟨[], SlIn.nil _ _ _, fun z hz => (by cases hz), rfl⟩
theorem ClsIn.len {w : World} {q : Option Addr} {n : Nat} {xs : List (List (List UInt8))} (h : ClsIn w q n xs) : xs.length = n := by
  obtain ⟨zs, h1, _, rfl⟩ := h
  rw [List.length_map]; exact h1.1
theorem ClsIn.below {w w' : World} {q : Option Addr} {n : Nat} {xs : List (List (List UInt8))} (h : ClsIn w q n xs) (hb : Below w.heap.size w w') : ClsIn w' q n xs := by
  obtain ⟨zs, h1, h2, rfl⟩ := h
  exact ⟨zs, h1.below hb h1.lt, fun z hz => (h2 z hz).below hb, rfl⟩
/-- The clause at a place. -/
theorem ClsIn.at {w : World} {q : Option Addr} {n : Nat} {xs : List (List (List UInt8))} (h : ClsIn w q n xs) (k : Nat) (hk : k < n) :
    ∃ b o q' n' c' x, q = some ⟨b, o, none⟩ ∧ xs[k]? = some x ∧ w.cell? ⟨b, o + k, none⟩ = some (.slice q' n' c') ∧ SetIs encStr w (.agg #[.slice q' n' c']) x ∧ x.length ≤ 16 := by
  obtain ⟨zs, h1, h2, rfl⟩ := h
  obtain ⟨b, o, rfl, _, hc⟩ := h1.at (by omega)
  have hl := h1.1
  have hz : zs[k]? = some zs[k] := List.getElem?_eq_getElem (by omega)
  have hm := h2 _ (List.mem_of_getElem? hz)
  exact ⟨b, o, _, _, _, zs[k].2, rfl, by rw [List.getElem?_map, hz]; rfl, hc k _ hz, hm.set, hm.few⟩
theorem ClsIn.ok {w : World} {q : Option Addr} {n : Nat} {xs : List (List (List UInt8))} (h : ClsIn w q n xs) : ∀ x ∈ xs, Rises x ∧ x.length ≤ 16 := by
  obtain ⟨zs, _, h2, rfl⟩ := h
  intro x hx
  obtain ⟨z, hz, rfl⟩ := List.mem_map.1 hx
  exact ⟨(h2 z hz).rise, (h2 z hz).few⟩

set_option maxRecDepth 100000 in
set_option maxHeartbeats 4000000 in
theorem oneImplies1_any (v1 : Value) (x y : List (List UInt8)) (B : Nat) (q2 : Option Addr) (n2 c2 : Nat) (w : World) (h1 : SetIs encStr w v1 x) (h2 : SetIs encStr w (.agg #[.slice q2 n2 c2]) y) (b : Boxed w B 84 (.slice q2 n2 c2)) (l1 : x.length ≤ 16) (l2 : y.length ≤ 16) :
    Calls Tryz.prog 78 #[v1, .pointer (some ⟨B, 0, none⟩)] w fun e w' => e = .returned (.bool (subB x y)) ∧ Below w.heap.size w w' := by
  obtain ⟨q1, n1, c1, rfl⟩ := set_form h1
  have A1 := below_alloc (w := w) (.cells #[.slice q1 n1 c1] 84)
  have con := Cls.Implies_any _ _ x y _ (h1.below A1) (h2.below A1) (by omega) (by omega)
  have k := (b.alloc (.cells #[.slice q1 n1 c1] 84)).cell
  clear h1 h2 b
  go_enter Tryz.func78, Tryz.ntmps78
  go_wp2_with fail
  refine con.mono ?_
  rintro e w' ⟨rfl, hb⟩
  go_wp2
  go_ret
  exact ⟨rfl, A1.trans (hb.mono A1.size)⟩

theorem one_take (xs : List (List (List UInt8))) (y x : List (List UInt8)) (k : Nat) (h : xs[k]? = some x) (h0 : subB x y = true) : oneB xs y = true :=
  List.any_eq_true.2 ⟨x, List.mem_of_getElem? h, h0⟩

set_option maxRecDepth 100000 in
set_option maxHeartbeats 4000000 in
theorem IndexFunc_any (q : Option Addr) (n c : Nat) (xs : List (List (List UInt8))) (y : List (List UInt8)) (B : Nat) (q2 : Option Addr) (n2 c2 : Nat) (w : World) (h : ClsIn w q n xs) (h2 : SetIs encStr w (.agg #[.slice q2 n2 c2]) y) (b : Boxed w B 84 (.slice q2 n2 c2)) (l2 : y.length ≤ 16) (hn : n ≤ 140737488355328) :
    Calls Tryz.prog 95 #[.slice q n c, .func (.func 78) #[] #[.pointer (some ⟨B, 0, none⟩)]] w fun e w' => ∃ i : Int, e = .returned (.int .i64 i) ∧ decide (0 ≤ i) = oneB xs y ∧ Below w.heap.size w w' := by
  have hl := Lib.hid h.len
  go_enter Tryz.func95, Tryz.ntmps95
  go_wp2
  go_loopw [8] (fun i wr => ∃ k : Nat, k ≤ n ∧ i = .int .i64 k ∧ Hid (∀ j x, j < k → xs[j]? = some x → subB x y = false) ∧ Below w.heap.size w wr) (fun i _ => n - (intOf i).toNat)
  case atStart => exact ⟨0, Nat.zero_le _, rfl, Lib.hid (fun j x h => by omega), Below.refl _ _⟩
  case round =>
    obtain ⟨k, hk, rfl, HJ, hB⟩ := hrel
    by_cases hlt : k < n
    · obtain ⟨bb, o, q', n', c', x, rfl, hx, hc, hs, hf⟩ := (h.below hB).at k hlt
      have con := oneImplies1_any _ x y B q2 n2 c2 wr hs (h2.below hB) ((Keep.of_below hB).boxed b b.lt) hf l2
      cases hp : subB x y with
      | true =>
        rewrite [hp] at con
        have HR := Lib.hid (show decide ((0 : Int) ≤ (k : Int)) = oneB xs y by rw [one_take xs y x k hx hp]; simp)
        clear hx hs h h2 b HJ
        go_wp2_with fail
        refine con.mono ?_
        rintro e w3 ⟨rfl, hb3⟩
        have A3 := hB.trans (hb3.mono hB.size)
        clear con hb3
        go_wp2
        go_ret
        exact ⟨_, rfl, HR.out, A3⟩
      | false =>
        rewrite [hp] at con
        have HJ2 := Lib.hid (show ∀ j z, j < k + 1 → xs[j]? = some z → subB z y = false from fun j z hj hz => by
          by_cases e : j = k
          · subst e; rw [hx] at hz; cases hz; exact hp
          · exact HJ.out j z (by omega) hz)
        clear hx hs h h2 b HJ hp
        go_wp2_with fail
        refine con.mono ?_
        rintro e w3 ⟨rfl, hb3⟩
        have A3 := hB.trans (hb3.mono hB.size)
        clear con hb3
        go_wp2
        go_roundw
        case rel => exact ⟨k + 1, by omega, by go_num, HJ2, A3⟩
        case measure => simp [intOf]; omega
    · obtain rfl : k = n := by omega
      have HR := Lib.hid (show decide ((0 : Int) ≤ -1) = oneB xs y by
        have : oneB xs y = false := by
          unfold oneB
          rw [Bool.eq_false_iff]
          intro ha
          obtain ⟨x, hx, hs⟩ := List.any_eq_true.1 ha
          obtain ⟨j, hj, rfl⟩ := List.getElem_of_mem hx
          have := HJ.out j _ (by have := hl.out; omega) (List.getElem?_eq_getElem hj)
          rw [this] at hs; cases hs
        rw [this]; rfl)
      clear HJ h h2 b
      go_wp2
      go_ret
      exact ⟨_, rfl, HR.out, hB⟩

set_option maxRecDepth 100000 in
set_option maxHeartbeats 4000000 in
theorem ContainsFunc_any (q : Option Addr) (n c : Nat) (xs : List (List (List UInt8))) (y : List (List UInt8)) (B : Nat) (q2 : Option Addr) (n2 c2 : Nat) (w : World) (h : ClsIn w q n xs) (h2 : SetIs encStr w (.agg #[.slice q2 n2 c2]) y) (b : Boxed w B 84 (.slice q2 n2 c2)) (l2 : y.length ≤ 16) (hn : n ≤ 140737488355328) :
    Calls Tryz.prog 77 #[.slice q n c, .func (.func 78) #[] #[.pointer (some ⟨B, 0, none⟩)]] w fun e w' => e = .returned (.bool (oneB xs y)) ∧ Below w.heap.size w w' := by
  have con := IndexFunc_any q n c xs y B q2 n2 c2 w h h2 b l2 hn
  clear h h2 b
  go_enter Tryz.func77, Tryz.ntmps77
  go_wp2_with fail
  refine con.mono ?_
  rintro e w' ⟨i, rfl, hi, hb⟩
  have HI := Lib.hid hi
  clear con hi
  go_wp2
  go_ret
  exact ⟨by rw [← HI.out]; simp, hb⟩

set_option maxRecDepth 100000 in
set_option maxHeartbeats 4000000 in
theorem oneImplies_any (q : Option Addr) (n c : Nat) (xs : List (List (List UInt8))) (v : Value) (y : List (List UInt8)) (w : World) (h : ClsIn w q n xs) (h2 : SetIs encStr w v y) (l2 : y.length ≤ 16) (hn : n ≤ 140737488355328) :
    Calls Tryz.prog 59 #[.slice q n c, v] w fun e w' => e = .returned (.bool (oneB xs y)) ∧ Below w.heap.size w w' := by
  obtain ⟨q2, n2, c2, rfl⟩ := set_form h2
  have A1 := below_alloc (w := w) (.cells #[.slice q2 n2 c2] 84)
  have con := ContainsFunc_any q n c xs y w.heap.size q2 n2 c2 _ (h.below A1) (h2.below A1) (Boxed.new w _ _) l2 hn
  clear h h2
  go_enter Tryz.func59, Tryz.ntmps59
  go_wp2_with fail
  refine con.mono ?_
  rintro e w' ⟨rfl, hb⟩
  go_wp2
  go_ret
  exact ⟨rfl, A1.trans (hb.mono A1.size)⟩

end Go.Proofs.YtpabhppghljipaaGreatDoor.Frm

namespace Go.Proofs.YtpabhppghljipaaGreatDoor.Cls
open Go.RowKit Go.Shelf Url Org Frm
attribute [local go_sem] Oper.semAt_some

theorem conv_by {W : World} {q : Option Addr} {n c : Nat} {l : List UInt8} (h : By W (.slice q n c) l) : (convert 22 9 (.slice q n c)).run Tryz.prog W = .ok (.string ⟨l.toArray⟩) W := by
  obtain ⟨h1, _, _, _, h5⟩ := h.at
  have h := h5.convert (P := Tryz.prog) (by rw [Lib.numsL_length, h1]) c 22 5 9 Tryz.underlying22 Tryz.underlying5 Tryz.underlying9
  rwa [strOfNums_numsL] at h
theorem row_nil {W : World} {base : Nat} {e : TypeId} {size n c m : Nat} {xs : List Value} (h : W.ownsRow base e size (.slice none n c) m xs) : n = 0 ∧ c = 0 := by
  rcases h.2 with ⟨he, _⟩ | ⟨g, cap, cur, he, _⟩
  · cases he; exact ⟨rfl, rfl⟩
  · cases he
theorem by_form {w : World} {v : Value} {l : List UInt8} (h : By w v l) : ∃ q c, v = .slice q l.length c := by
  obtain ⟨q, c, rfl, _⟩ := h
  exact ⟨q, c, rfl⟩
theorem trim_len (l : List UInt8) : (trimB l).length ≤ l.length := by
  unfold trimB
  have h1 := (List.dropWhile_sublist blankB (l := (l.dropWhile blankB).reverse)).length_le
  have h2 := (List.dropWhile_sublist blankB (l := l)).length_le
  rw [List.length_reverse] at *
  omega
/-- cut.Trim. -/
theorem Trim_by (q : Option Addr) (n c : Nat) (l : List UInt8) (w : World) (h : By w (.slice q n c) l) (hn : n ≤ 1099511627775) :
    Calls Tryz.prog 49 #[.slice q n c] w fun e w' => ∃ q' c', e = .returned (.slice q' (trimB l).length c') ∧ By w' (.slice q' (trimB l).length c') (trimB l) ∧ Below w.heap.size w w' := by
  obtain ⟨h1, h2, h3, h4, h5⟩ := h.at
  obtain ⟨f, e, ht⟩ := trims l
  refine (cutTrim_any q n c f e l w h1 hn h2 h5 ht).mono ?_
  rintro e' w' ⟨v', rfl, hr, hb⟩
  rw [← trim_sub l f e ht] at hr
  have hby := By.row hr
  obtain ⟨q', c', rfl⟩ := by_form hby
  exact ⟨q', c', rfl, hby, hb⟩
/-- A block that holds a deferred list is none of a set's. -/
theorem sl_put {w : World} {q : Option Addr} {n : Nat} {x : List (List UInt8)} {D : Nat} {d : Option (List Deferred)} {o : Obj} (h : SlIn encStr w q n x) (hD : w.heap[D]? = some (.deferred d)) : SlIn encStr (w.putObj D o) q n x := by
  refine h.keep (Keep.putObj (S := fun b => b ≠ D) w D o (by simp)) fun a ha h0 e => ?_
  obtain ⟨b, o', he, _, hc⟩ := h.at h0
  rw [ha] at he; cases he
  obtain ⟨y, hy⟩ : ∃ y, x[0]? = some y := ⟨_, List.getElem?_eq_getElem (by rw [h.1]; exact h0)⟩
  have := hc 0 y hy
  simp only at e
  subst e
  simp [World.cell?, hD] at this
theorem set_put {w : World} {v : Value} {x : List (List UInt8)} {D : Nat} {d : Option (List Deferred)} {o : Obj} (h : SetIs encStr w v x) (hD : w.heap[D]? = some (.deferred d)) : SetIs encStr (w.putObj D o) v x := by
  obtain ⟨q, n, c, rfl, h1, h2, h3, h4⟩ := h
  exact ⟨q, n, c, rfl, h1, h2, sl_put h3 hD, h4⟩

/-- What the pieces that have come are without blanks. -/
def trimX (pre : List (Nat × List UInt8)) : List (List UInt8) := pre.map fun p => trimB p.2
theorem trimX_snoc (pre : List (Nat × List UInt8)) (i : Nat) (t : List UInt8) : trimX (pre ++ [(i, t)]) = trimX pre ++ [trimB t] := by unfold trimX; simp
theorem trimX_split (t : List UInt8) : trimX (splitX 124 t) = (Ref.splitL 124 t).map trimB := by
  unfold trimX
  rw [← Host.splitX_snd, List.map_map]; rfl
def SpI (T e : TypeId) (Bo : Nat) (RB : Nat → Prop) (W0 : World) (pre : List (Nat × List UInt8)) (Pv : Nat → Prop) (W : World) : Prop := ColI T e Bo RB W0 (trimX pre) Pv W

theorem parseC_long (t : List UInt8) (h : 4096 < t.length) : parseC t = .inl 3 := by unfold parseC; rw [if_pos h]
theorem parseC_never (t : List UInt8) (h : ¬ 4096 < t.length) (h2 : trimB t = neverS) : parseC t = .inr [] := by unfold parseC; rw [if_neg h, if_pos h2]
theorem parseC_of (t : List UInt8) (h : ¬ 4096 < t.length) (h2 : trimB t ≠ neverS) : parseC t = ofC (trimX (splitX 124 t)) := by unfold parseC; rw [if_neg h, if_neg h2, trimX_split]

end Go.Proofs.YtpabhppghljipaaGreatDoor.Cls

namespace Go.Proofs.YtpabhppghljipaaGreatDoor.S
open Go.RowKit Go.Shelf Go.Sort
attribute [local go_sem] Oper.semAt_some

set_option maxRecDepth 100000 in
set_option maxHeartbeats 1000000 in
theorem Of_new (q : Option Addr) (n c : Nat) (zs : List (List UInt8)) (w : World) (h : SlIn encStr w q n zs) (hq : q = none → c = 0) (hm : n ≤ 1099511627776) :
    Calls Tryz.prog 84 #[.slice q n c] w fun e w' => ∃ q n c, e = .returned (.agg #[.slice q n c]) ∧ SetIs encStr w' (.agg #[.slice q n c]) (setS zs) ∧ (∀ a, q = some a → w.heap.size ≤ a.block) ∧ Below w.heap.size w w' := by
  obtain ⟨i0, hi0, hz0, hz1, hz2⟩ := info_parts info_str
  have b0 := Boxed.new w 82 (.slice none 0 0)
  have h0 := h.alloc (.cells #[.slice none 0 0] 82)
  have hb0 := below_alloc (w := w) (.cells #[.slice none 0 0] 82)
  have hsz : (w.alloc (.cells #[.slice none 0 0] 82)).heap.size = w.heap.size + 1 := by simp
  obtain ⟨W, hW⟩ : ∃ W, w.alloc (.cells #[.slice none 0 0] 82) = W := ⟨_, rfl⟩
  rw [hW] at b0 h0 hb0 hsz
  have hsz' := Lib.hid hsz
  have hl := Lib.hid h.1
  have HW := Lib.hid hW
  clear hsz h hW
  go_enter Tryz.func84, Tryz.ntmps84
  go_wp2_with (at_builtin; refine wpList_append_row (enc := encStr) rfl _ _ 49 9 rfl i0 (.string ByteArray.empty) 16 Tryz.underlying49 hi0 hz0 hz1 hz2 rfl (fun _ => rfl) (by decide) (w.heap.size + 1) (.slice none 0 0) 0 [] rfl (World.ownsRow_nil _ _ _ _) q n c zs rfl hq (by rw [HW.out]; exact h0) (by omega) (by simp) ?_; intro v1 w1 hown hgrow)
  rw [HW.out] at hgrow
  simp only [Nat.zero_add, List.nil_append] at hown
  have hgs := hgrow.size
  rw [hsz'.out] at hgs
  have con := ordered_own (w.heap.size + 1) v1 n zs w1 hown hgs hm
  have hk1 : Keep (fun _ => True) W w1 := Keep.of_grownBy hgrow (fun r hr => by cases hr)
  have b1 := hk1.boxed b0 trivial
  have hb1 : Below w.heap.size w w1 := hb0.trans ((hk1.mono (T := (· < w.heap.size)) fun _ _ _ => trivial).below hb0.size)
  clear hown hgrow hk1
  go_wp2_with fail
  refine con.mono ?_
  rintro e w2 ⟨q2, c2, rfl, hset, hqb, hbel⟩
  have b2 := (Keep.of_below hbel).boxed b1 (by omega)
  have cR := b2.cell
  have fR := b2.frozen
  have hb2 := hb1.trans (hbel.mono (by omega))
  clear con
  obtain ⟨_, _, _, he, hc2, hm2, hsl, hr⟩ := hset
  cases he
  go_wp2
  have hbr2 := (b2.set (.slice q2 (setS zs).length c2)).cell
  refine bodyPost_ret (v := .agg #[.slice q2 (setS zs).length c2]) (by simp [results, Tryz.f84, go_sem, hbr2]) rfl ⟨q2, (setS zs).length, c2, rfl, ⟨q2, (setS zs).length, c2, rfl, hc2, hm2, ?_, hr⟩, (fun a h => by have := (hqb a h).1; omega), hb2.setCell (Nat.le_refl _) _⟩
  exact hsl.keep (Keep.setCell (S := fun b => w.heap.size + 1 ≤ b) w2 ⟨w.heap.size, 0, none⟩ _ (by simp)) fun a h _ => (hqb a h).1

end Go.Proofs.YtpabhppghljipaaGreatDoor.S
namespace Go.Proofs.YtpabhppghljipaaGreatDoor.Cls
open Go.RowKit Go.Shelf Url Org Frm
attribute [local go_sem] Oper.semAt_some

/-- A clause and no error, or the zero clause and one; its row is new from block B on. -/
def ClsNew (B : Nat) (r : Sum Int (List (List UInt8))) (w : World) (e : Ending) (w' : World) : Prop :=
  ∃ q n c, e = .returned (.tuple #[.agg #[.slice q n c], .int .i64 (errC r)]) ∧ SetIs encStr w' (.agg #[.slice q n c]) (valC r) ∧ (∀ a, q = some a → B ≤ a.block) ∧ Below w.heap.size w w'

set_option maxRecDepth 100000 in
set_option maxHeartbeats 4000000 in
theorem bounded_new (B : Nat) (q : Option Addr) (n c : Nat) (x : List (List UInt8)) (w : World) (h : SetIs encStr w (.agg #[.slice q n c]) x) (hq : ∀ a, q = some a → B ≤ a.block) :
    Calls Tryz.prog 83 #[.agg #[.slice q n c]] w (ClsNew B (bndC x) w) := by
  obtain ⟨W2, hW2⟩ : ∃ W2, (w.alloc (.cells #[.slice q n c] 82)).alloc (.cells #[.slice none 0 0] 84) = W2 := ⟨_, rfl⟩
  have A2 : Below w.heap.size w W2 := hW2 ▸ ((Below.refl _ w).alloc (Nat.le_refl _) _).alloc (by simp) _
  have b1 : Boxed W2 w.heap.size 82 (.slice q n c) := hW2 ▸ (Boxed.new w _ _).alloc _
  have b2 : Boxed W2 (w.heap.size + 1) 84 (.slice none 0 0) := by
    have := Boxed.new (w.alloc (.cells #[.slice q n c] 82)) 84 (.slice none 0 0)
    rw [World.size_alloc] at this
    exact hW2 ▸ this
  have hs2 := h.below A2
  have con := S.Len_any _ x _ hs2
  have c1 := b1.cell
  have HW2 := Lib.hid hW2
  clear h hW2
  have key : ∀ w3, Below W2.heap.size W2 w3 → Boxed w3 (w.heap.size + 1) 84 (.slice none 0 0) ∧ w3.cell? ⟨w.heap.size, 0, none⟩ = some (.slice q n c) ∧ SetIs encStr w3 (.agg #[.slice q n c]) x ∧ Below w.heap.size w w3 := fun w3 hb =>
    ⟨(Keep.of_below hb).boxed b2 b2.lt, ((Keep.of_below hb).boxed b1 b1.lt).cell, hs2.below hb, A2.trans (hb.mono A2.size)⟩
  clear b1 b2 hs2
  unfold bndC
  by_cases hx : x.length ≤ 16
  · rw [if_pos hx]
    have d : decide ((16 : Int) < (x.length : Int)) = false := by simp; omega
    go_enter Tryz.func83, Tryz.ntmps83
    go_wp2_with fail
    rw [HW2.out]
    refine con.mono ?_
    rintro e w3 ⟨rfl, hb⟩
    obtain ⟨k2, k1, k3, k4⟩ := key w3 hb
    have kf := k2.frozen
    have kc := k2.cell
    clear con key hb
    go_wp2
    refine bodyPost_ret (ret_cls2 rfl _ _ (w.heap.size + 1) _ rfl (k2.set _)) rfl ?_
    exact ⟨q, n, c, rfl, k3.set k2 (fun x h => by cases h), hq, k4.setCell (by simp) _⟩
  · rw [if_neg hx]
    have d : decide ((16 : Int) < (x.length : Int)) = true := by simp; omega
    go_enter Tryz.func83, Tryz.ntmps83
    go_wp2_with fail
    rw [HW2.out]
    refine con.mono ?_
    rintro e w3 ⟨rfl, hb⟩
    obtain ⟨k2, k1, k3, k4⟩ := key w3 hb
    have kf := k2.frozen
    have kc := k2.cell
    clear con key hb
    go_wp2
    refine bodyPost_ret (ret_cls2 rfl _ _ (w.heap.size + 1) _ rfl (k2.set _)) rfl ?_
    exact ⟨none, 0, 0, rfl, set_nil _, (fun a h => by cases h), k4.setCell (by simp) _⟩

set_option maxRecDepth 100000 in
set_option maxHeartbeats 8000000 in
theorem Of_new (q : Option Addr) (n c : Nat) (l : List (List UInt8)) (w : World) (h : SlIn encStr w q n l) (hq : q = none → c = 0) (hm : n ≤ 1099511627776) (hlen : ∀ t ∈ l, t.length ≤ 1300) (hG : Gl w) :
    Calls Tryz.prog 64 #[.slice q n c] w (ClsNew w.heap.size (ofC l) w) := by
  have hl := Lib.hid h.1
  obtain ⟨W1, hW1⟩ : ∃ W1, w.alloc (.cells #[.slice none 0 0] 84) = W1 := ⟨_, rfl⟩
  have A1 : Below w.heap.size w W1 := hW1 ▸ (Below.refl _ w).alloc (Nat.le_refl _) _
  have b1 : Boxed W1 w.heap.size 84 (.slice none 0 0) := hW1 ▸ Boxed.new w _ _
  have HW1 := Lib.hid hW1
  have HO := Lib.hid (ofC_bnd l)
  have HL := Lib.hid hlen
  have HG := Lib.hid hG
  clear hW1 hlen hG
  go_enter Tryz.func64, Tryz.ntmps64
  go_wp2_with fail
  rw [HW1.out]
  go_loopw [8] (fun i wr => ∃ k : Nat, k ≤ n ∧ i = .int .i64 k ∧ Hid (∀ j x, j < k → l[j]? = some x → prinB x = true) ∧ Boxed wr w.heap.size 84 (.slice none 0 0) ∧ Below w.heap.size w wr) (fun i _ => n - (intOf i).toNat)
  case atStart => exact ⟨0, Nat.zero_le _, rfl, Lib.hid (fun j x h => by omega), b1, A1⟩
  case round =>
    obtain ⟨k, hk, rfl, HJ, hb, hB⟩ := hrel
    clear b1 A1 HW1
    have kf := hb.frozen
    have hr := h.below hB h.lt
    by_cases hlt : k < n
    · obtain ⟨b, o, rfl, _, hc⟩ := hr.at (by omega)
      obtain ⟨x, hx, _⟩ := drop_getElem l k (by rw [hl.out]; exact hlt)
      have hck : wr.cell? ⟨b, o + k, none⟩ = some (.string ⟨x.toArray⟩) := hc k x hx
      have con := Principal_any x wr (HL.out x (List.mem_of_getElem? hx)) (HG.out.on hB)
      cases hp : prinB x with
      | false =>
        rw [hp] at con
        have HR := Lib.hid (show ofC l = .inl 2 by
          rw [HO.out, if_neg]
          intro ha
          have := List.all_eq_true.1 ha x (List.mem_of_getElem? hx)
          rw [hp] at this; cases this)
        clear hc hx hr h HJ
        go_wp2_with fail
        refine con.mono ?_
        rintro e w3 ⟨rfl, hb3⟩
        replace hb := (Keep.of_below hb3).boxed hb hb.lt
        have kf := hb.frozen
        have kc := hb.cell
        have A3 := hB.trans (hb3.mono hB.size)
        clear con hb3
        go_wp2
        refine bodyPost_ret (ret_cls2 rfl _ _ w.heap.size _ rfl (hb.set _)) rfl ?_
        rw [HR.out]
        exact ⟨none, 0, 0, rfl, set_nil _, (fun a h => by cases h), A3.setCell (Nat.le_refl _) _⟩
      | true =>
        rw [hp] at con
        have HJ2 := Lib.hid (show ∀ j y, j < k + 1 → l[j]? = some y → prinB y = true from fun j y hj hy => by
          by_cases e : j = k
          · subst e; rw [hx] at hy; cases hy; exact hp
          · exact HJ.out j y (by omega) hy)
        clear hc hx hr HJ hp
        go_wp2_with fail
        refine con.mono ?_
        rintro e w3 ⟨rfl, hb3⟩
        replace hb := (Keep.of_below hb3).boxed hb hb.lt
        have A3 := hB.trans (hb3.mono hB.size)
        clear con hb3
        go_wp2
        go_roundw
        case rel => exact ⟨k + 1, by omega, by go_num, HJ2, hb, A3⟩
        case measure => simp [intOf]; omega
    · obtain rfl : k = n := by omega
      have HR := Lib.hid (show ofC l = bndC (setS l) by
        rw [HO.out, if_pos]
        rw [List.all_eq_true]
        intro x hx
        obtain ⟨j, hj, rfl⟩ := List.getElem_of_mem hx
        exact HJ.out j _ (by have := hl.out; omega) (List.getElem?_eq_getElem hj))
      have con := S.Of_new q k c l wr hr hq hm
      clear HJ hr h hlt HL HG HO
      go_wp2_with fail
      refine con.mono ?_
      rintro e w4 ⟨q4, n4, c4, rfl, hs, hqn, hb4⟩
      have con2 := bounded_new w.heap.size q4 n4 c4 (setS l) w4 hs (fun a h => Nat.le_trans hB.size (hqn a h))
      replace hb := (Keep.of_below hb4).boxed hb hb.lt
      have A4 := hB.trans (hb4.mono hB.size)
      clear con hb4 hs kf
      obtain ⟨r, hr⟩ : ∃ r, bndC (setS l) = r := ⟨_, rfl⟩
      rw [hr] at con2 HR
      clear hr
      go_wp2_with fail
      refine con2.mono ?_
      rintro e w5 ⟨q5, n5, c5, rfl, hs, hq5, hb5⟩
      replace hb := (Keep.of_below hb5).boxed hb hb.lt
      have A5 := A4.trans (hb5.mono A4.size)
      have kf := hb.frozen
      have kc := hb.cell
      clear con2 hb5
      go_wp2
      refine bodyPost_ret (ret_cls2 rfl _ _ w.heap.size _ rfl (hb.set _)) rfl ?_
      rw [HR.out]
      exact ⟨q5, n5, c5, rfl, hs.set hb (fun x h => by cases h), hq5, A5.setCell (Nat.le_refl _) _⟩

set_option maxRecDepth 100000 in
set_option maxHeartbeats 8000000 in
theorem Parse_new (q : Option Addr) (n c : Nat) (t : List UInt8) (w : World) (hby : By w (.slice q n c) t) (hn : n ≤ 1300 ∨ 4096 < n ∧ n ≤ 1099511627775) (hG : Gl w) :
    Calls Tryz.prog 51 #[.slice q n c] w (ClsNew w.heap.size (parseC t) w) := by
  obtain ⟨i0, hi0, hz0, hz1, hz2⟩ := info_parts S.info_str
  have hl := hby.at.1
  obtain ⟨W1, hW1⟩ : ∃ W1, w.alloc (.cells #[.slice none 0 0] 84) = W1 := ⟨_, rfl⟩
  have A1 : Below w.heap.size w W1 := hW1 ▸ below_alloc _
  have bR : Boxed W1 w.heap.size 84 (.slice none 0 0) := hW1 ▸ Boxed.new w _ _
  have hs1 : W1.heap.size = w.heap.size + 1 := by rw [← hW1]; simp
  have HW1 := Lib.hid hW1
  clear hW1
  refine (callsIn_wide (n := 1)).1 ?_
  refine callsIn_of_wp_marks Tryz.func51 rfl trivial ?_ rfl
  simp only [Tryz.ntmps51, List.size_toArray, List.length_cons, List.length_nil, Nat.reduceAdd, Nat.reduceSub, Array.replicate_succ, Array.replicate_zero, List.push_toArray, List.append_toArray, List.nil_append, List.cons_append]
  by_cases hbig : 4096 < n
  · have d : decide ((4096 : Int) < (n : Int)) = true := by simp; omega
    have HR := Lib.hid (parseC_long t (by omega))
    have kf := bR.frozen
    have kc := bR.cell
    clear hby hl hn hG
    gi_wp2_with fail
    rw [HW1.out]
    gi_wp2
    refine ⟨_, ret_cls2 rfl _ _ w.heap.size _ rfl bR, ?_⟩
    rw [HR.out]
    exact ⟨none, 0, 0, rfl, set_nil _, (fun a h => by cases h), A1⟩
  have hn2 : n ≤ 1300 := by omega
  have d : decide ((4096 : Int) < (n : Int)) = false := by simp; omega
  have hb1 := hby.on A1
  have con := Trim_by q n c t W1 hb1 (by omega)
  have HT := Lib.hid (trim_len t)
  have HG := Lib.hid hG
  have HL := Lib.hid hl
  have HP1 := Lib.hid (fun h2 => parseC_never t (by omega) h2)
  have HP2 := Lib.hid (fun h2 => parseC_of t (by omega) h2)
  clear hby hn hG
  obtain ⟨T, hT⟩ : ∃ T, trimB t = T := ⟨_, rfl⟩
  rw [hT] at con HP1 HP2 HT
  clear hT hbig
  gi_wp2_with fail
  rw [HW1.out]
  gi_wp2_with fail
  refine ⟨trivial, (callsIn_wide.2 con).mono ?_⟩
  rintro e W2 ⟨q2, c2, rfl, hb2, hbel⟩
  have hcv := conv_by hb2
  have hb0 := hb1.on hbel
  replace bR := (Keep.of_below hbel).boxed bR bR.lt
  have A2 := A1.trans (hbel.mono A1.size)
  have hs2 := hbel.size
  have kf := bR.frozen
  have kc := bR.cell
  have e1 : (T == [110, 101, 118, 101, 114]) = decide (T = neverS) := by
    rw [Bool.eq_iff_iff, beq_iff_eq, decide_eq_true_iff]; rfl
  generalize hlT : T.length = m at *
  clear con hb1 hb2 hbel hlT HW1
  by_cases hnv : T = neverS
  · have HR := Lib.hid (HP1.out hnv)
    rw [decide_eq_true hnv] at e1
    clear hnv HP1 HP2 hb0
    gi_wp2
    refine ⟨_, ret_cls2 rfl _ _ w.heap.size _ rfl (bR.set _), ?_⟩
    rw [HR.out]
    exact ⟨none, 0, 0, rfl, set_nil _, (fun a h => by cases h), A2.setCell (Nat.le_refl _) _⟩
  have HR := Lib.hid (HP2.out hnv)
  rw [decide_eq_false hnv] at e1
  clear hnv HP1 HP2
  obtain ⟨h1, h2, h3, h4, h5⟩ := hb0.at
  obtain ⟨W3, hW3⟩ : ∃ W3, W2.alloc (.cells #[.slice none 0 0] 49) = W3 := ⟨_, rfl⟩
  have b0 : Boxed W3 W2.heap.size 49 (.slice none 0 0) := hW3 ▸ Boxed.new W2 _ _
  have hB3 : Below W2.heap.size W2 W3 := hW3 ▸ below_alloc _
  have hs3 : W3.heap.size = W2.heap.size + 1 := by rw [← hW3]; simp
  have con := Split_any q n c 124 t W3 h1 (by omega) (bytes_keep h5 (Keep.of_below hB3) (fun a h1 h2 => bytes_lt h5 a h1 h2))
  have hsm := Lib.hid (splitX_small 124 t n hl)
  have hlx := Lib.hid (show (splitX 124 t).length ≤ n + 1 by have := splitX_len 124 t; omega)
  have HW3 := Lib.hid hW3
  clear hW3 h1 h2 h3 h4 h5 hb0
  gi_wp2_with fail
  rw [HW3.out]
  refine ⟨trivial, (callsIn_wide.2 con).mono ?_⟩
  rintro e W4 ⟨B, v', rfl, hB, hBc, hrow, hBl, hbel⟩
  have hit := Split_iter (by omega) hB hBc hrow
  obtain ⟨RB, hRB⟩ : ∃ RB : Nat → Prop, RB = fun b => b = B ∨ b = W3.heap.size ∨ v'.ownBlock = some b := ⟨_, rfl⟩
  have hRl : ∀ b, RB b → W2.heap.size + 1 ≤ b ∧ b < W4.heap.size := fun b hb => by
    rw [hRB] at hb
    rcases hb with rfl | rfl | hb
    · exact ⟨by omega, hB.lt⟩
    · exact ⟨by omega, hBc.lt⟩
    · have := hrow.lt b hb; exact ⟨by omega, this.2⟩
  rw [← hRB, hs3] at hit
  have hB4 : Below W2.heap.size W2 W4 := hB3.trans (hbel.mono (by omega))
  replace b0 := (Keep.of_below hbel).boxed b0 (by omega)
  replace bR := (Keep.of_below hB4).boxed bR bR.lt
  have A4 := A2.trans (hB4.mono A2.size)
  have hs4 := hbel.size
  clear con hB hBc hrow hBl hbel HW3 hRB hB3 hB4 kf kc
  generalize splitX 124 t = xs at *
  gi_wp2
  refine rf_law (gf := 67) (lb := #[.pointer (some ⟨B, 0, none⟩), .pointer (some ⟨W2.heap.size + 1, 0, none⟩)]) rfl (enters_of Tryz.func67 (by kernel_rfl) rfl)
    hit (Keep.refl _ _) (fun b hb => (hRl b hb).2) (fun x args G W h => by obtain ⟨v, rfl, _⟩ := h; rfl)
    (SpI 49 9 W2.heap.size (fun b => b < W2.heap.size) W4) (fun _ _ _ _ => False) (fun s Pv Pv' A B h hk hp => ColI_abide _ _ _ _ _ (by omega) (fun b hb => by omega) (trimX s) Pv Pv' A B h hk hp) (fun _ _ _ _ _ _ h _ _ => h)
    ⟨_, b0, World.ownsRow_nil _ _ _ _, (fun _ h => h.elim), (fun _ h => by cases h), Keep.refl _ _⟩ ?round ?done ?stop
  case round =>
    rintro ll pre ⟨xi, x⟩ rest Pv G args Wr hll hxs ⟨v, hbx, hrow, hge, hnv, hKW⟩ hPl hGl hPb hGP ⟨p, rfl, hp, rfl⟩
    have hxl := hsm.out (xi, x) (by rw [hxs]; simp)
    have hpl : pre.length + 1 ≤ n + 1 := by
      have h1 := hlx.out
      rw [hxs, List.length_append, List.length_cons] at h1
      omega
    simp only at hxl hp
    obtain ⟨qx, cx, rfl, _, hnc, hcm, hbs, hblk⟩ := row_open hp
    have hbyx : By Wr (.slice qx x.length cx) x := By.row hp
    clear hxs
    gi_wp2
    refine ⟨Keep.refl _ _, fun W5 hk5 hs5 r hr => ?_⟩
    have hnP : ∀ b, b < W4.heap.size → ¬ Pv b := fun b hb h => by have := hge b h; omega
    have hk5' : Keep (fun b => ¬ Pv b) Wr W5 := hk5.mono fun b _ hb h => hb (h ▸ hPl)
    replace hbx := hk5'.boxed hbx (hnP _ (by omega))
    replace hrow := hk5'.row hrow hnv
    have hK5 : Keep (fun b => b < W2.heap.size) W4 W5 := hKW.trans (hk5'.mono fun b _ hb => hnP b (by omega))
    have hPl5 : ∀ b, Pv b → b < W5.heap.size := fun b hb => by rw [hs5]; exact hPb b hb
    have gx : Keep (fun b => (Value.slice qx x.length cx).ownBlock = some b) Wr W5 := hk5.mono fun b _ hb h => hGl (h ▸ hb)
    have hbs5 : Lib.BytesIn W5 qx x.length (Lib.numsL x) := bytes_keep hbs gx (fun a ha _ => (hblk a ha).2.2)
    have hby5 : By W5 (.slice qx x.length cx) x := by
      obtain ⟨g1, g2, g3, g4, _⟩ := hbyx.at
      exact By.of g1 g2 g3 (fun h => (g4 h).2) hbs5
    have hszW := hK5.size
    have hlen : (trimX pre).length = pre.length := by unfold trimX; simp
    rw [hlen] at hrow
    clear hr hk5 hk5' hs5 hKW hbs hp hbyx hblk gx hbs5
    obtain ⟨Wd, hWd⟩ : ∃ Wd, W5.drew = Wd := ⟨_, rfl⟩
    have hkd : ∀ S, Keep S W5 Wd := fun S => by rw [← hWd]; exact Keep.drew S W5
    replace hbx := (hkd (fun _ => True)).boxed hbx trivial
    replace hrow := (hkd (fun _ => True)).row hrow (fun _ _ => trivial)
    have hbyd : By Wd (.slice qx x.length cx) x := by rw [← hWd]; exact hby5.drew
    have hKd := hK5.trans (hkd _)
    have hszd : Wd.heap.size = W5.heap.size := by rw [← hWd]; rfl
    have con := Trim_by qx x.length cx x Wd hbyd (by omega)
    have HT := Lib.hid (trim_len x)
    have HSN := Lib.hid (trimX_snoc pre xi x)
    generalize trimB x = T at *
    have c0 := hbx.cell
    have HWd := Lib.hid hWd
    clear hWd hby5 hbyd hcv
    gi_wp2_with fail
    refine region_anyO (fun j => decide (j ≠ 6)) (fun X => X.cell? ⟨W2.heap.size, 0, none⟩ = some v) (by kernel_rfl) ?_
    rw [HWd.out]
    refine anyO_take 0 (v := v) rfl (by kernel_rfl) (by kernel_rfl) (by kernel_rfl) (by kernel_rfl) (by kernel_rfl) (fun _ _ _ h => h) ⟨.inl ⟨by rfl, ?_⟩, fun _ => rfl⟩ c0 ?_
    · rintro w h1; go_simp
    refine anyO_one 1 (by kernel_rfl) rfl fun K hK => ?_
    go_simp
    refine hK _ _ (fun _ => c0) ?_
    clear hK K
    refine anyO_one 2 (by kernel_rfl) rfl fun K hK => ?_
    go_simp
    refine ⟨trivial, rfl, (CallsIn.inRound ll (callsIn_wide.2 con)).mono ?_⟩
    rintro e w4 ⟨q4, c4, rfl, hb4, hbel⟩
    have hbx4 := (Keep.of_below hbel).boxed hbx hbx.lt
    have hrow4 := (Keep.of_below hbel).row hrow (fun b hb => (hrow.lt b hb).2)
    have hcv := conv_by hb4
    have hsz4 := hbel.size
    have c4' := hbx4.cell
    refine hK _ _ (fun _ => c4') ?_
    clear hK K con
    refine anyO_one 3 (by kernel_rfl) rfl fun K hK => ?_
    go_simp
    refine hK _ _ (fun _ => c4') ?_
    clear hK K
    refine anyO_one 4 (by kernel_rfl) rfl fun K hK => ?_
    go_simp
    have c5' := (hbx4.alloc (.cells #[.string ⟨T.toArray⟩] 9)).cell
    refine hK _ _ (fun _ => c5') ?_
    clear hK K
    refine anyO_one 5 (by kernel_rfl) rfl fun K hK => ?_
    rw [if_pos (by rfl)]
    refine S.wpIn_append_own _ _ 49 rfl W4.heap.size 9 i0 (.string ByteArray.empty) 1 16 Tryz.underlying49 hi0 hz0 hz1 hz2 rfl (by decide) v pre.length _ rfl (hrow4.alloc _) ⟨w4.heap.size, 0, none⟩ 1 1 [encStr T] rfl rfl (cell_one_new _ _ _) (by simp [encStr, Value.oneCell']) (by unfold maxLen; omega) (by omega) (by simp; omega) ?_
    intro v2 w6 hown' hgrow hat
    obtain ⟨g', cap', rfl⟩ := ownsRow_succ hown'
    obtain ⟨hv1, hv2, hr2, hkk⟩ := appended_keep (S := fun b => RB b ∨ Pv b ∨ b < W2.heap.size) hbx4 (by decide) hrow4 (fun h => by rcases h with h | h | h; (have := hRl _ h; omega); exact hnP W2.heap.size (by omega) h; omega) (fun b hb h => by have h0 := (hrow4.lt b hb).1; rcases h with h | h | h; (have := hRl _ h; omega); exact hnv b hb h; omega) hown' hgrow
    have c6 := hv1.cell
    have f6 := hv1.frozen
    refine hK _ _ (fun _ => c6) ?_
    clear hK K
    refine anyO_one 6 (by kernel_rfl) rfl fun K hK => ?_
    go_simp
    refine hK _ _ (fun h => absurd h (by decide)) ?_
    clear hK K
    refine anyO_done (by kernel_rfl) ?_ _
    clear c6 f6 c5' c4' hcv c0
    gi_wp2
    have hk0 : ∀ S : Nat → Prop, (∀ b, S b → b < Wd.heap.size) → Keep S W5 w4 := fun S hS => (hkd S).trans ((Keep.of_below hbel).mono fun b _ h => hS b h)
    have hRd : ∀ b, RB b ∨ Pv b ∨ b < W2.heap.size → b < Wd.heap.size := fun b hb => by
      rcases hb with h | h | h
      · have := hRl b h; omega
      · rw [hszd]; exact hPl5 b h
      · omega
    have hkk2 := (hk0 _ hRd).trans hkk
    refine ⟨hkk2.mono fun b _ h => h.elim .inl fun h => .inr (.inl h.1), _, hv2, ?_, fun b hb => hge b hb.1, fun b hb hp => ?_, hK5.trans (hkk2.mono fun b _ h => .inr (.inr h))⟩
    · rw [HSN.out, List.length_append, List.length_singleton, hlen]
      simpa using hr2
    · rcases hat with h | h
      · exact hnv b (h ▸ hb) hp.1
      · rw [h] at hb; cases hb; have h5 := hPl5 _ hp.1; simp at h5; omega
  case done =>
    rintro D Pv Wd hD hPD hPl ⟨v, hbx, hrow, hge, hnv, hKW⟩ hK
    obtain ⟨q5, c5, rfl, hc5, _, hs5, _⟩ := slIn_of_owns hrow
    have hA : Keep (fun b => b < W2.heap.size) W4 Wd := hKW
    have bRd := hA.boxed bR (by have := A2.size; omega)
    have hBd : Below w.heap.size w Wd := A4.trans ((hA.mono fun b _ h => by have := A2.size; omega).below A4.size)
    have hxl : ∀ y ∈ trimX xs, y.length ≤ 1300 := fun y hy => by
      obtain ⟨p, hp, rfl⟩ := List.mem_map.1 hy
      have h1 := hsm.out p hp
      have h2 := trim_len p.2
      omega
    have hcnt : (trimX xs).length ≤ 1099511627776 := by
      unfold trimX
      rw [List.length_map]
      have := hlx.out
      omega
    have con := Of_new q5 _ c5 (trimX xs) Wd hs5 (fun h => by subst h; exact (row_nil hrow).2) hcnt hxl (HG.out.on hBd)
    have cB := hbx.cell
    generalize (trimX xs).length = m5 at *
    rw [← HR.out] at con
    have hDl := hPl D hPD
    clear hs5 hrow hbx hnv hge hKW hA hxl hcnt b0 hit
    gi_wp2_with fail
    refine ⟨trivial, (callsIn_wide.2 con).mono ?_⟩
    rintro e w6 ⟨q6, n6, c6, rfl, hs6, hq6, hb6⟩
    have hD6 : w6.heap[D]? = some (.deferred (some [])) := (hb6.block D hDl).trans hK
    have bR6 := (Keep.of_below hb6).boxed bRd bRd.lt
    have A6 := hBd.trans (hb6.mono hBd.size)
    have kf := bR6.frozen
    have kc := bR6.cell
    have hs7 := hs6.set (u' := .slice q6 n6 c6) bR6 (fun x h => by cases h)
    have bR7 := bR6.set (.slice q6 n6 c6)
    have hwD : w.heap.size < D := by have := A2.size; omega
    have hD7 : (w6.setCell ⟨w.heap.size, 0, none⟩ (.slice q6 n6 c6)).heap[D]? = some (.deferred (some [])) := (Keep.setCell (S := fun b => b ≠ w.heap.size) w6 _ _ (by simp)).heap (by omega) hD6
    have A7 : Below w.heap.size w (w6.setCell ⟨w.heap.size, 0, none⟩ (.slice q6 n6 c6)) := A6.setCell (Nat.le_refl _) _
    clear con cB hb6
    gi_wp2
    refine ⟨by simp, .inl ⟨_, _, rfl, run_takeDeferred hD7, ?_⟩⟩
    have hkP : ∀ S : Nat → Prop, ¬ S D → Keep S (w6.setCell ⟨w.heap.size, 0, none⟩ (.slice q6 n6 c6)) ((w6.setCell ⟨w.heap.size, 0, none⟩ (.slice q6 n6 c6)).putObj D (.deferred none)) := fun S hS => Keep.putObj _ D _ hS
    refine ⟨_, ret_cls2 rfl _ _ w.heap.size _ rfl ((hkP (fun b => b ≠ D) (by simp)).boxed bR7 (by omega)), q6, n6, c6, rfl, set_put hs7 hD7, (fun a h => Nat.le_trans hBd.size (hq6 a h)), ?_⟩
    exact ((Keep.of_below A7).trans (hkP _ (by omega))).below (Nat.le_refl _)
  case stop =>
    rintro D c pre rest Pv Wd _ _ _ _ h _
    exact h.elim

end Go.Proofs.YtpabhppghljipaaGreatDoor.Cls

namespace Go.Proofs.YtpabhppghljipaaGreatDoor.Cls
open Go.RowKit Go.Shelf Url Org Frm
attribute [local go_sem] Oper.semAt_some

def liveA : List UInt8 := [104, 116, 116, 112, 58, 47, 47, 97]
def liveB : List UInt8 := [104, 116, 116, 112, 58, 47, 47, 98]
def placeOf (o : Sum Int U) : Option (List UInt8) := match o with
  | .inr u => some (placeU u)
  | .inl _ => none
theorem prin_host (t : List UInt8) (h : placeOf (canonU t) = some t) (hl : t.length ≤ 4096) (h1 : closedS.isPrefixOf t = false) (h2 : moreB t = false) : prinB t = true := by
  unfold prinB parseQ
  rw [h1, h2, parse_canon t hl]
  cases hc : canonU t with
  | inl n => rw [hc] at h; cases h
  | inr u =>
    rw [hc] at h
    exact decide_eq_true (Option.some.inj h)
theorem live_a : prinB liveA = true := prin_host _ (by decide +kernel) (by decide) (by decide) (by decide)
theorem live_b : prinB liveB = true := prin_host _ (by decide +kernel) (by decide) (by decide) (by decide)
end Go.Proofs.YtpabhppghljipaaGreatDoor.Cls

namespace Go.Proofs.YtpabhppghljipaaGreatDoor.Frm
open Go.RowKit Go.Shelf Go.Sort Url Org Cls
attribute [local go_sem] Oper.semAt_some
set_option linter.unusedVariables false

theorem info_cls : (Tryz.prog.info? 84).map (fun i => (i.zero, i.size, i.bytes)) = some (some (.agg #[.slice none 0 0]), 1, 24) := by kernel_rfl

/-- 'append(dst, src...)' at rows of clauses, dst the call's own. -/
theorem wpList_append_cls {ops : Array Oper} {rest : List Oper} {o : Oper} {a : Act} {w : World} {Q : Exit → Act → World → Prop} (hgd : o.guard = none) (s x : Operand)
    (ho : o.op = .call { callee := .builtin .append, args := #[s, x], argTypes := #[24, 24] })
    (base : Nat) (v : Value) (n : Nat) (xs : List Value) (hs : a.eval s = v) (hown : w.ownsRow base 84 1 v n xs) (q : Option Addr) (m c : Nat) (zs : List Cl) (hx : a.eval x = .slice q m c) (hq : q = none → c = 0)
    (hb : SlIn encC w q m zs) (h47 : n + m ≤ 2199023255552) (hbase : base ≤ w.heap.size)
    (h : ∀ v' w', w'.ownsRow base 84 1 v' (n + m) (xs ++ zs.map encC) → w.grownBy w' v.ownBlock → wpList Tryz.prog ops Q rest (a.put o.dst v') w') : wpList Tryz.prog ops Q (o :: rest) a w := by
  obtain ⟨i0, hi0, hz0, hz1, hz2⟩ := info_parts info_cls
  cases q with
  | none =>
    obtain rfl := hq rfl
    have hm : m = 0 := by
      rcases Nat.eq_zero_or_pos m with h0 | h0
      · exact h0
      · obtain ⟨b, o, he, _⟩ := hb.at h0; cases he
    subst hm
    obtain rfl : zs = [] := List.eq_nil_of_length_eq_zero hb.1
    refine wpList_append_own_none hgd s x _ ho base 84 i0 1 Tryz.underlying24 hi0 v n xs hs hown hx (h v w ?_ ⟨rfl, rfl, rfl, Nat.le_refl _, fun _ _ _ => rfl⟩)
    simpa using hown
  | some ad =>
    refine wpList_append_own w hgd s x _ ho base 84 i0 (.agg #[.slice none 0 0]) 1 24 Tryz.underlying24 hi0 hz0 hz1 hz2 rfl (by decide) v n xs hs hown ad m c (zs.map encC) hx (by simp [hb.1]) (fun j u hj => ?_) (fun u hu => by obtain ⟨y, _, rfl⟩ := List.mem_map.1 hu; rfl) (by unfold maxLen; omega) (by omega) hbase (fun v' w' h1 h2 _ => h v' w' h1 h2)
    rw [List.getElem?_map] at hj
    cases hy : zs[j]? with
    | none => rw [hy] at hj; cases hj
    | some y =>
      rw [hy] at hj
      cases hj
      have hjl : j < zs.length := (List.getElem?_eq_some_iff.1 hy).1
      obtain ⟨b, o, he, _, hcc⟩ := hb.at (by have := hb.1; omega)
      cases he
      rw [Go.WideShapes.add_plain]
      exact hcc j y hy

set_option maxRecDepth 100000 in
set_option maxHeartbeats 4000000 in
theorem Clone_any (q : Option Addr) (n c : Nat) (zs : List Cl) (w : World) (h : SlIn encC w q n zs) (hq : q = none → c = 0) (hn : n ≤ 1099511627776) :
    Calls Tryz.prog 87 #[.slice q n c] w fun e w' => ∃ v, e = .returned v ∧ w'.ownsRow w.heap.size 84 1 v n (zs.map encC) ∧ Below w.heap.size w w' := by
  have q24 : ∀ (w : World) (a : Option Addr) (n c n' c' : Nat), (binOp .eql 24 (.slice a n c) (.slice none n' c')).run Tryz.prog w = .ok (.bool a.isNone) w := fun w a n c n' c' => Lib.run_eql_slice_nil w _ _ a n c n' c' Tryz.underlying24
  cases q with
  | none =>
    obtain rfl := hq rfl
    have hm : n = 0 := by
      rcases Nat.eq_zero_or_pos n with h0 | h0
      · exact h0
      · obtain ⟨b, o, he, _⟩ := h.at h0; cases he
    subst hm
    obtain rfl : zs = [] := List.eq_nil_of_length_eq_zero h.1
    clear h hq
    go_enter Tryz.func87, Tryz.ntmps87
    go_wp2
    go_ret
    exact ⟨_, rfl, World.ownsRow_nil _ _ _ _, Below.refl _ _⟩
  | some ad =>
    have HB := Lib.hid (h.alloc (.cells #[] 84))
    clear h hq
    go_enter Tryz.func87, Tryz.ntmps87
    go_wp2_with (at_builtin; refine wpList_append_cls rfl _ _ rfl w.heap.size _ 0 [] rfl (World.ownsRow_made w #[] 0 (Nat.le_refl _) (Nat.zero_le _) rfl) (some ad) n c zs rfl (fun h => by cases h) HB.out (by omega) (by simp) ?_; intro v1 w1 hown hgrow)
    go_wp2
    go_ret
    refine ⟨_, rfl, by simpa using hown, ((Below.refl _ w).alloc (Nat.le_refl _) _).grown hgrow (by simp) (fun k hk => by have e : some w.heap.size = some k := hk; cases e; exact Nat.le_refl _)⟩

/-- The world has drawn and laid blocks, no more. -/
def Grew (w w' : World) : Prop := ∃ q os, w' = grow (w.drewN q) os
theorem Grew.trans {a b c : World} (h : Grew a b) (k : Grew b c) : Grew a c := by
  obtain ⟨n, os, rfl⟩ := h
  obtain ⟨m, os', rfl⟩ := k
  exact ⟨n + m, os ++ os', by show grow (grow ((a.drewN n).drewN m) os) os' = _; rw [grow_grow, World.drewN_drewN]⟩
theorem Grew.alloc (w : World) (o : Obj) : Grew w (w.alloc o) := ⟨0, #[o], by rw [alloc_eq_grow]; rfl⟩

theorem setLen_grew (q : Option Addr) (n c : Nat) (w : World) :
    Calls Tryz.prog 101 #[.agg #[.slice q n c]] w fun e w' => e = .returned (.int .i64 n) ∧ w' = w.alloc (.cells #[.slice q n c] 82) := by
  go_enter Tryz.func101, Tryz.ntmps101
  go_wp2
  go_ret
  exact ⟨rfl, rfl⟩
theorem clsLen_grew (q : Option Addr) (n c : Nat) (w : World) :
    Calls Tryz.prog 90 #[.agg #[.slice q n c]] w fun e w' => e = .returned (.int .i64 n) ∧ ∃ q os, w' = grow (w.drewN q) os := by
  have con := setLen_grew q n c (w.alloc (.cells #[.slice q n c] 84))
  go_enter Tryz.func90, Tryz.ntmps90
  go_wp2_with fail
  refine con.mono ?_
  rintro e w' ⟨rfl, rfl⟩
  go_wp2
  go_ret
  exact ⟨rfl, (Grew.alloc _ _).trans (Grew.alloc _ _)⟩

set_option maxRecDepth 100000 in
set_option maxHeartbeats 8000000 in
/-- Which is the shorter one? -/
theorem short1_any (q1 : Option Addr) (n1 c1 : Nat) (q2 : Option Addr) (n2 c2 : Nat) (w : World) :
    Calls Tryz.prog 88 #[.agg #[.slice q1 n1 c1], .agg #[.slice q2 n2 c2]] w fun e w' => e = .returned (.int .i64 (Lib.compareInt n1 n2)) ∧ ∃ q os, w' = grow (w.drewN q) os := by
  obtain ⟨W, hW⟩ : ∃ W, (w.alloc (.cells #[.slice q1 n1 c1] 84)).alloc (.cells #[.slice q2 n2 c2] 84) = W := ⟨_, rfl⟩
  have k1 : ∀ n os, (grow (W.drewN n) os).cell? ⟨w.heap.size, 0, none⟩ = some (.slice q1 n1 c1) := fun n os => cell_grown (by rw [← hW]; simp; omega) (by rw [← hW]; exact ((Boxed.new w _ _).alloc _).cell) n os
  have k2 : ∀ n os, (grow (W.drewN n) os).cell? ⟨w.heap.size + 1, 0, none⟩ = some (.slice q2 n2 c2) := fun n os => cell_grown (by rw [← hW]; simp) (by
    have := Boxed.new (w.alloc (.cells #[.slice q1 n1 c1] 84)) 84 (.slice q2 n2 c2)
    rw [World.size_alloc] at this
    rw [← hW]; exact this.cell) n os
  have hG : Grew w W := by rw [← hW]; exact (Grew.alloc _ _).trans (Grew.alloc _ _)
  have hcmp := fun W' => cmpInt n1 n2 W'
  have mixed : Tryz.prog.follows .mixedOrders = true := by kernel_rfl
  have HW := Lib.hid hW
  clear hW
  generalize Lib.compareInt n1 n2 = r at hcmp ⊢
  go_enter Tryz.func88, Tryz.ntmps88
  go_wp2_with fail
  rw [HW.out]
  go_quiet_grown (first
    | (go_at_call 90; exact Calls.grown_of (clsLen_grew _ _ _ _))
    | (go_at_call 89; exact Calls.grown_of ((hcmp _).mono fun e w' ⟨he, hw⟩ => ⟨he, 0, #[], by rw [hw, grow_empty]; rfl⟩)))
  go_wp2
  go_ret
  exact ⟨rfl, hG.trans ⟨_, _, rfl⟩⟩

/-- Which is less? -/
theorem setCmp_grew (q1 : Option Addr) (n1 c1 : Nat) (q2 : Option Addr) (n2 c2 : Nat) (xs ys : List (List UInt8)) (w : World) (h1 : SetIs encStr w (.agg #[.slice q1 n1 c1]) xs) (h2 : SetIs encStr w (.agg #[.slice q2 n2 c2]) ys) :
    Calls Tryz.prog 81 #[.agg #[.slice q1 n1 c1], .agg #[.slice q2 n2 c2]] w fun e w' => e = .returned (.int .i64 (cmpL xs ys)) ∧ ∃ q os, w' = grow (w.drewN q) os := by
  obtain ⟨_, _, _, he1, _, hn1, hs1, _⟩ := h1
  cases he1
  obtain ⟨_, _, _, he2, _, hn2, hs2, _⟩ := h2
  cases he2
  have con := S.Compare_any q1 q2 n1 c1 n2 c2 xs ys _ ((hs1.alloc (.cells #[.slice q1 n1 c1] 82)).alloc (.cells #[.slice q2 n2 c2] 82)) ((hs2.alloc _).alloc _) hn1 hn2
  clear hs1 hs2
  generalize cmpL xs ys = r at con ⊢
  go_enter Tryz.func81, Tryz.ntmps81
  go_wp2_with fail
  refine con.mono ?_
  rintro e w' ⟨rfl, rfl⟩
  go_wp2
  go_ret
  exact ⟨rfl, (Grew.alloc _ _).trans (Grew.alloc _ _)⟩
theorem clsCmp_grew (q1 : Option Addr) (n1 c1 : Nat) (q2 : Option Addr) (n2 c2 : Nat) (xs ys : List (List UInt8)) (w : World) (h1 : SetIs encStr w (.agg #[.slice q1 n1 c1]) xs) (h2 : SetIs encStr w (.agg #[.slice q2 n2 c2]) ys) :
    Calls Tryz.prog 63 #[.agg #[.slice q1 n1 c1], .agg #[.slice q2 n2 c2]] w fun e w' => e = .returned (.int .i64 (cmpL xs ys)) ∧ ∃ q os, w' = grow (w.drewN q) os := by
  have A1 := below_alloc (w := w) (.cells #[.slice q1 n1 c1] 84)
  have A2 := A1.trans ((below_alloc (w := w.alloc (.cells #[.slice q1 n1 c1] 84)) (.cells #[.slice q2 n2 c2] 84)).mono A1.size)
  have con := setCmp_grew q1 n1 c1 q2 n2 c2 xs ys _ (h1.below A2) (h2.below A2)
  clear h1 h2 A1 A2
  generalize cmpL xs ys = r at con ⊢
  go_enter Tryz.func63, Tryz.ntmps63
  go_wp2_with fail
  refine con.mono ?_
  rintro e w' ⟨rfl, hg⟩
  go_wp2
  go_ret
  exact ⟨rfl, ((Grew.alloc _ _).trans (Grew.alloc _ _)).trans hg⟩

end Go.Proofs.YtpabhppghljipaaGreatDoor.Frm

namespace Go.Proofs.YtpabhppghljipaaGreatDoor.Frm
open Go.RowKit Go.Shelf Go.Sort Url Org Cls
attribute [local go_sem] Oper.semAt_some
set_option linter.unusedVariables false

theorem keep_sortK {α : Type} [Inhabited α] (S : Nat → Prop) (enc : α → List Value) (k : Nat) (w : World) (blk off m : Nat) (dk : Array α) (os : Array Obj) (h : ¬ S blk) : Keep S w (sortWorldK enc k w blk off m dk os) :=
  ((keep_ahead S w m).trans (keep_putRow S id _ blk off _ h)).trans (keep_grow S _ os)
theorem flat_one {α : Type} [Inhabited α] (enc : α → Value) (d : Array α) (j : Nat) (h : j < d.size) : (flatK (fun x => [enc x]) 1 d)[j]! = enc d[j]! := by
  rw [get_flatK _ _ _ _ (by omega), Nat.div_one, Nat.mod_one]; rfl
theorem sort_all {α : Type} [Inhabited α] (d d' : Array α) (h : PermIn 0 d.size d d') : d'.toList.Perm d.toList := by
  have h1 := h.2.2
  rw [Array.extract_size, ← h.1, Array.extract_size] at h1
  exact h1

set_option maxRecDepth 100000 in
set_option maxHeartbeats 4000000 in
theorem sort_any (g : Nat) (cf : Cl → Cl → Int) (hO : SWO (ltOf cf)) (eg : ∀ args w, (callFunc g args).run Tryz.prog w = .ok (.enter g args) w)
    (hc : ∀ W z1 z2, ClAt W z1 → ClAt W z2 → Calls Tryz.prog g #[.agg #[encC z1], .agg #[encC z2]] W fun e w' => e = .returned (.int .i64 (cf z1 z2)) ∧ ∃ q os, w' = grow (W.drewN q) os)
    (w0 : World) (v : Value) (n : Nat) (zs : List Cl) (w : World) (h : w.ownsRow w0.heap.size 84 1 v n (zs.map encC)) (hz : ∀ z ∈ zs, ClAt w0 z) (hb0 : Below w0.heap.size w0 w) (hn : n ≤ 1099511627776) :
    Calls Tryz.prog 71 #[v, .func (.func g) #[] #[]] w fun e w' => e = .returned (.tuple #[]) ∧ ∃ (q : Option Addr) (c : Nat) (zs' : List Cl), v = .slice q n c ∧ (q = none → c = 0) ∧ zs'.Perm zs ∧ (∀ (i j : Nat) (x y : Cl), i < j → zs'[i]? = some x → zs'[j]? = some y → ¬ cf y x < 0) ∧ SlIn encC w' q n zs' ∧ Below w0.heap.size w w' := by
  by_cases hv : v = .slice none 0 0
  · subst hv
    have hl : zs = [] ∧ n = 0 := by
      have h1 := h.1
      rcases h.2 with ⟨_, h2⟩ | ⟨g, cap, cur, h2, _⟩
      · simp [h2] at h1
        exact ⟨h1, h2⟩
      · cases h2
    obtain ⟨rfl, rfl⟩ := hl
    exact (sortNone (.func (.func g) #[] #[]) w).mono fun e w' ⟨he, hw⟩ => ⟨he, none, 0, [], rfl, fun _ => rfl, List.Perm.refl _, by simp, SlIn.nil _ _ _, by rw [hw]; exact Below.refl _ _⟩
  · obtain ⟨blk, cap, rfl, hb, hlt, hnc, hcm, hl, hH⟩ := Lib.holds_of_ownsRow h hv
    clear h hv
    haveI : Inhabited {z : Cl // ClAt w0 z} := ⟨⟨((none, 0, 0), []), ⟨set_nil _, by simp⟩⟩⟩
    obtain ⟨d, hd⟩ : ∃ d : Array {z : Cl // ClAt w0 z}, d = (zs.attach.map fun z => (⟨z.1, hz z.1 z.2⟩ : {z : Cl // ClAt w0 z})).toArray := ⟨_, rfl⟩
    have hds : d.size = n := by rw [hd]; simp [hl]
    have hdl : d.toList.map Subtype.val = zs := by
      rw [hd]
      simp only [List.map_map]
      have : (Subtype.val ∘ fun z : {x // x ∈ zs} => (⟨z.1, hz z.1 z.2⟩ : {z : Cl // ClAt w0 z})) = Subtype.val := rfl
      rw [this, List.attach_map_subtype_val]
    have hdj : ∀ j, j < d.size → encC d[j]!.1 = encC zs.toArray[j]! := fun j hj => by
      have h1 : (d.toList.map Subtype.val)[j]? = zs[j]? := by rw [hdl]
      rw [List.getElem?_map, Array.getElem?_toList, Array.getElem?_eq_getElem hj, Option.map_some] at h1
      have h2 : j < zs.length := by omega
      rw [List.getElem?_eq_getElem h2] at h1
      have h3 : zs.toArray[j]! = zs[j] := by simp [h2]
      rw [getElem!_pos d j hj, h3, ← Option.some.inj h1]
    have hK : HoldsK (fun x : {z : Cl // ClAt w0 z} => [encC x.1]) 1 w blk 0 d := fun j hj => by
      have hj' : j < d.size := by simpa using hj
      have := hH j (by simp; omega)
      rw [flat_one (fun x : {z : Cl // ClAt w0 z} => encC x.1) d j hj', hdj j hj']
      exact this
    have hO' : SWO (ltOf fun x y : {z : Cl // ClAt w0 z} => cf x.1 y.1) := ⟨fun x => hO.irrefl x.1, fun x y z => hO.trans x.1 y.1 z.1, fun x y z => hO.ntrans x.1 y.1 z.1⟩
    have hcmp : CmpLays Tryz.prog g #[] (fun x : {z : Cl // ClAt w0 z} => [encC x.1]) 1 (fun x y => cf x.1 y.1) blk 0 d.size w := fun m os dk _ x y => by
      have hk : Below w0.heap.size w0 (sortWorldK (fun x : {z : Cl // ClAt w0 z} => [encC x.1]) 1 w blk 0 m dk os) := hb0.trans ((keep_sortK (· < w0.heap.size) _ 1 w blk 0 m dk os (by omega)).below hb0.size)
      exact hc _ x.1 y.1 (x.2.below hk) (y.2.below hk)
    have con := sortCls (fun x : {z : Cl // ClAt w0 z} => [encC x.1]) (fun _ => rfl) (fun x u hu => by rw [List.mem_singleton.1 hu]; rfl) (fun x y => cf x.1 y.1) hO' g #[] blk 0 cap d w eg hcmp hK hlt (by omega)
    rw [hds] at con
    refine con.mono fun e w' ⟨he, d', m, os, hp, hs, hw⟩ => ⟨he, some ⟨blk, 0, none⟩, cap, d'.toList.map Subtype.val, rfl, (fun h => by cases h), ?_, ?_, ?_, ?_⟩
    · rw [← hdl]
      refine List.Perm.map _ (sort_all d d' ?_)
      rw [hds]; exact hp
    · intro i j x y hij hi hj hlt
      have e1 : d'.size = n := by rw [hp.1, hds]
      rw [List.getElem?_map, Array.getElem?_toList] at hi hj
      have hjl : j < d'.size := by
        rcases Nat.lt_or_ge j d'.size with h | h
        · exact h
        · rw [Array.getElem?_eq_none h] at hj; cases hj
      rw [Array.getElem?_eq_getElem hjl, Option.map_some] at hj
      rw [Array.getElem?_eq_getElem (by omega), Option.map_some] at hi
      have := hs i j (Nat.zero_le _) hij (by omega)
      rw [getElem!_pos d' j hjl, getElem!_pos d' i (by omega)] at this
      have h4 : ¬ cf d'[j].val d'[i].val < 0 := of_decide_eq_false this
      rw [Option.some.inj hj, Option.some.inj hi] at h4
      exact h4 hlt
    · have e1 : d'.size = d.size := by rw [hp.1]
      have hK' := holdsK_sortWorldK (fun x : {z : Cl // ClAt w0 z} => [encC x.1]) 1 w blk 0 m d d' os hlt hK e1
      rw [hw]
      refine ⟨by rw [List.length_map, Array.length_toList, e1, hds], fun _ => ⟨blk, 0, rfl, lt_sortWorldK _ 1 w blk 0 m d' os hlt, fun i x hx => ?_⟩⟩
      rw [List.getElem?_map, Array.getElem?_toList] at hx
      have hil : i < d'.size := by
        rcases Nat.lt_or_ge i d'.size with h | h
        · exact h
        · rw [Array.getElem?_eq_none h] at hx; cases hx
      rw [Array.getElem?_eq_getElem hil, Option.map_some] at hx
      have := (hK' i (by simp; omega)).1
      rw [flat_one (fun x : {z : Cl // ClAt w0 z} => encC x.1) d' i hil, getElem!_pos d' i hil, Option.some.inj hx] at this
      exact this
    · rw [hw]
      exact (keep_sortK (· < w0.heap.size) _ 1 w blk 0 m d' os (by omega)).below hb0.size

def lenF (x y : Cl) : Int := Lib.compareInt x.2.length y.2.length
def cmpF (x y : Cl) : Int := cmpL x.2 y.2
theorem ltLen (x y : Cl) : ltOf lenF x y = decide (x.2.length < y.2.length) := by
  unfold ltOf lenF Lib.compareInt
  by_cases h1 : x.2.length < y.2.length
  · simp [h1]
  · by_cases h2 : y.2.length < x.2.length <;> simp [h1, h2]
theorem swoLen : SWO (ltOf lenF) where
  irrefl x := by rw [ltLen]; simp
  trans x y z h1 h2 := by rw [ltLen] at *; simp at *; omega
  ntrans x y z h1 h2 := by rw [ltLen] at *; simp at *; omega
theorem cmpL_neg (x y : List (List UInt8)) : cmpL x y < 0 ↔ x < y := by
  rw [← cmp_lt]
  constructor
  · intro h
    have : ∀ a b : List (List UInt8), cmpL a b = -1 ∨ cmpL a b = 0 ∨ cmpL a b = 1 := fun a => by
      induction a with
      | nil => intro b; cases b <;> simp [cmpL]
      | cons p a ih =>
        intro b
        cases b with
        | nil => simp [cmpL]
        | cons q b =>
          unfold cmpL
          split
          · simp
          · split
            · simp
            · exact ih b
    rcases this x y with k | k | k <;> omega
  · intro h; omega
theorem ltCmp (x y : Cl) : ltOf cmpF x y = decide (x.2 < y.2) := by
  unfold ltOf cmpF
  rw [Bool.eq_iff_iff, decide_eq_true_iff, decide_eq_true_iff]
  exact cmpL_neg _ _
theorem swoCmp : SWO (ltOf cmpF) where
  irrefl x := by rw [ltCmp]; exact decide_eq_false (Lin.irr _)
  trans x y z h1 h2 := by
    rw [ltCmp] at *
    exact decide_eq_true (Lin.tr (of_decide_eq_true h1) (of_decide_eq_true h2))
  ntrans x y z h1 h2 := by
    rw [ltCmp] at *
    have k1 := of_decide_eq_false h1
    have k2 := of_decide_eq_false h2
    refine decide_eq_false fun h => ?_
    rcases Lin.tri x.2 y.2 with k | k | k
    · exact k1 k
    · rw [k] at h; exact k2 h
    · exact k2 (Lin.tr k h)
theorem cl_len {w : World} {z : Cl} (h : ClAt w z) : z.2.length = z.1.2.1 := by
  obtain ⟨q, n, c, he, _, _, hs, _⟩ := h.set
  cases he
  exact hs.1

set_option maxRecDepth 100000 in
set_option maxHeartbeats 4000000 in
/-- The clauses in new memory, those of fewer principals ahead. -/
theorem shortest_any (q : Option Addr) (n c : Nat) (zs : List Cl) (w : World) (h : SlIn encC w q n zs) (hz : ∀ z ∈ zs, ClAt w z) (hq : q = none → c = 0) (hn : n ≤ 1099511627776) :
    Calls Tryz.prog 70 #[.slice q n c] w fun e w' => ∃ (q' : Option Addr) (c' : Nat) (zs' : List Cl), e = .returned (.slice q' n c') ∧ zs'.Perm zs ∧ (∀ (i j : Nat) (x y : Cl), i < j → zs'[i]? = some x → zs'[j]? = some y → x.2.length ≤ y.2.length) ∧ SlIn encC w' q' n zs' ∧ Below w.heap.size w w' := by
  have con := Clone_any q n c zs w h hq hn
  have HZ := Lib.hid hz
  clear h hz
  go_enter Tryz.func70, Tryz.ntmps70
  go_wp2_with fail
  refine con.mono ?_
  rintro e w2 ⟨v, rfl, hown, hb⟩
  have con2 := sort_any 88 lenF swoLen (enters_of Tryz.func88 (by kernel_rfl) rfl) (fun W z1 z2 h1 h2 => by
    have e : lenF z1 z2 = Lib.compareInt z1.1.2.1 z2.1.2.1 := by unfold lenF; rw [cl_len h1, cl_len h2]
    rw [e]
    exact short1_any z1.1.1 z1.1.2.1 z1.1.2.2 z2.1.1 z2.1.2.1 z2.1.2.2 W) w v n zs w2 hown HZ.out hb hn
  clear con hown
  go_wp2_with fail
  refine con2.mono ?_
  rintro e w3 ⟨rfl, q', c', zs', rfl, hq', hp, hs, hsl, hb3⟩
  clear con2
  go_wp2
  go_ret
  refine ⟨q', c', zs', rfl, hp, fun i j x y hij hi hj => ?_, hsl, hb.trans (hb3.mono (by have := hb.size; omega))⟩
  have h1 := hs i j x y hij hi hj
  have h2 : ltOf lenF y x = false := decide_eq_false (by omega)
  rw [ltLen] at h2
  have := of_decide_eq_false h2
  omega

end Go.Proofs.YtpabhppghljipaaGreatDoor.Frm

namespace Go.Proofs.YtpabhppghljipaaGreatDoor.Frm
open Go.RowKit Go.Shelf Go.Sort Url Org Cls
attribute [local go_sem] Oper.semAt_some
set_option linter.unusedVariables false

/-- The value v is the formula of these clauses, in w. -/
def FrmIs (w : World) (v : Value) (f : List (List (List UInt8))) : Prop := ∃ q n c, v = .agg #[.slice q n c] ∧ (q = none → c = 0) ∧ n ≤ c ∧ ClsIn w q n f
theorem frm_form {w : World} {v : Value} {f : List (List (List UInt8))} (h : FrmIs w v f) : ∃ q n c, v = .agg #[.slice q n c] := by
  obtain ⟨q, n, c, rfl, _⟩ := h
  exact ⟨q, n, c, rfl⟩
theorem FrmIs.below {w w' : World} {v : Value} {f : List (List (List UInt8))} (h : FrmIs w v f) (hb : Below w.heap.size w w') : FrmIs w' v f := by
  obtain ⟨q, n, c, rfl, h1, h2, h3⟩ := h
  exact ⟨q, n, c, rfl, h1, h2, h3.below hb⟩
theorem FrmIs.row {w : World} {q : Option Addr} {n c : Nat} {f : List (List (List UInt8))} (h : FrmIs w (.agg #[.slice q n c]) f) : (q = none → c = 0) ∧ n ≤ c ∧ ClsIn w q n f := by
  obtain ⟨q', n', c', he, h1, h2, h3⟩ := h
  cases he
  exact ⟨h1, h2, h3⟩
theorem frm_nil (w : World) : FrmIs w (.agg #[.slice none 0 0]) [] := ⟨none, 0, 0, rfl, fun _ => rfl, Nat.le_refl _, ClsIn.nil _ _⟩
/-- A formula and no error, or always and one. -/
def FrmOut (r : Sum Int (List (List (List UInt8)))) (w : World) (e : Ending) (w' : World) : Prop :=
  ∃ q n c, e = .returned (.tuple #[.agg #[.slice q n c], .int .i64 (frmE r)]) ∧ FrmIs w' (.agg #[.slice q n c]) (frmV r) ∧ (∀ a, q = some a → w.heap.size ≤ a.block) ∧ Below w.heap.size w w'
theorem ret_frm2 {fn : Func} {p u : Tmp} (h : fn.results = #[.cell p 26, .tmp u]) (tmps : Array Value) (w : World) (B : Nat) (v : Value) (hp : tmps.getD p undef = .pointer (some ⟨B, 0, none⟩)) (hU : Boxed w B 26 v) :
    (results fn tmps).run Tryz.prog w = .ok (.tuple #[.agg #[v], tmps.getD u undef]) w := by
  rw [results_cell_tmp h, hp]
  simp [asAddr, Result.andThen, run_loadVar_row w B 26 _ #[v] (0, 0) _ hU Tryz.underlying26 rfl (by kernel_rfl)]
/-- A row, behind a store into a box that lies elsewhere. -/
theorem slIn_set {w : World} {q : Option Addr} {n : Nat} {zs : List Cl} (B : Nat) (v : Value) (h : SlIn encC w q n zs) (hq : ∀ a, q = some a → a.block ≠ B) : SlIn encC (w.setCell ⟨B, 0, none⟩ v) q n zs :=
  h.keep (Keep.setCell (S := fun b => b ≠ B) w ⟨B, 0, none⟩ v (by simp)) fun a h _ => hq a h

/-- A store into a box that holds no text, off the formula's row. -/
theorem FrmIs.set {w : World} {q : Option Addr} {n c : Nat} {f : List (List (List UInt8))} {B : Nat} {t : TypeId} {u u' : Value} (h : FrmIs w (.agg #[.slice q n c]) f) (b : Boxed w B t u) (hu : ∀ x, encStr x ≠ u) (hq : ∀ a, q = some a → a.block ≠ B) : FrmIs (w.setCell ⟨B, 0, none⟩ u') (.agg #[.slice q n c]) f := by
  obtain ⟨h1, h2, zs, s, z, rfl⟩ := h.row
  exact ⟨q, n, c, rfl, h1, h2, zs, slIn_set B _ s hq, fun x hx => ⟨(z x hx).set.set b hu, (z x hx).few⟩, rfl⟩
theorem slC_put {w : World} {q : Option Addr} {n : Nat} {zs : List Cl} {D : Nat} {d : Option (List Deferred)} {o : Obj} (h : SlIn encC w q n zs) (hD : w.heap[D]? = some (.deferred d)) : SlIn encC (w.putObj D o) q n zs := by
  refine h.keep (Keep.putObj (S := fun b => b ≠ D) w D o (by simp)) fun a ha h0 e => ?_
  obtain ⟨b, o', he, _, hc⟩ := h.at h0
  rw [ha] at he; cases he
  obtain ⟨y, hy⟩ : ∃ y, zs[0]? = some y := ⟨_, List.getElem?_eq_getElem (by rw [h.1]; exact h0)⟩
  have := hc 0 y hy
  simp only at e
  subst e
  simp [World.cell?, hD] at this

theorem take_snoc {α : Type} (l : List α) (k : Nat) (x : α) (h : l[k]? = some x) : l.take (k + 1) = l.take k ++ [x] ∧ l.drop k = x :: l.drop (k + 1) := by
  obtain ⟨hk, rfl⟩ := List.getElem?_eq_some_iff.1 h
  exact ⟨List.take_succ_eq_append_getElem hk, List.drop_eq_getElem_cons hk⟩
theorem short_rest (ys : List Cl) (k : Nat) (x : Cl) (h : ys[k]? = some x) (hs : ∀ (i j : Nat) (x y : Cl), i < j → ys[i]? = some x → ys[j]? = some y → x.2.length ≤ y.2.length) : ∀ y ∈ (ys.drop (k + 1)).map Prod.snd, x.2.length ≤ y.length := fun y hy => by
  obtain ⟨z, hz, rfl⟩ := List.mem_map.1 hy
  obtain ⟨j, hj, rfl⟩ := List.getElem_of_mem hz
  refine hs k (k + 1 + j) x _ (by omega) h ?_
  rw [← List.getElem?_drop]
  exact List.getElem?_eq_getElem hj

set_option maxRecDepth 100000 in
set_option maxHeartbeats 16000000 in
theorem Of_any (q : Option Addr) (n c : Nat) (xs : List (List (List UInt8))) (w : World) (h : ClsIn w q n xs) (hq : q = none → c = 0) (hm : n ≤ 1099511627776) :
    Calls Tryz.prog 52 #[.slice q n c] w (FrmOut (ofF xs) w) := by
  have hR := Lib.hid h.ok
  obtain ⟨zs, hs, hz, hxs⟩ := h
  obtain ⟨W1, hW1⟩ : ∃ W1, w.alloc (.cells #[.slice none 0 0] 26) = W1 := ⟨_, rfl⟩
  have A1 : Below w.heap.size w W1 := hW1 ▸ (Below.refl _ w).alloc (Nat.le_refl _) _
  have b1 : Boxed W1 w.heap.size 26 (.slice none 0 0) := hW1 ▸ Boxed.new w _ _
  have hs1 : W1.heap.size = w.heap.size + 1 := by rw [← hW1]; simp
  have con := shortest_any q n c zs W1 (hs.below A1 hs.lt) (fun z hz' => (hz z hz').below A1) hq hm
  have HW1 := Lib.hid hW1
  have HX := Lib.hid hxs
  have HZ := Lib.hid hz
  have HS1 := Lib.hid hs1
  clear hW1 hs hz hxs hs1
  go_enter Tryz.func52, Tryz.ntmps52
  go_wp2_with fail
  rw [HW1.out]
  refine con.mono ?_
  rintro e w2 ⟨q', c', ys, rfl, hp, hsh, hsl, hb2⟩
  have HP := Lib.hid hp
  have HSH := Lib.hid hsh
  have hyl := hsl.1
  have HYL := Lib.hid hyl
  have b2 := (Keep.of_below hb2).boxed b1 b1.lt
  have A2 := A1.trans (hb2.mono A1.size)
  have hs2 := Lib.hid (show w.heap.size < w2.heap.size by have := hb2.size; have := HS1.out; omega)
  have H0 := Lib.hid (Left.start (ys.map Prod.snd) fun c hc => by
    obtain ⟨z, hz, rfl⟩ := List.mem_map.1 hc
    exact (HZ.out z (hp.mem_iff.1 hz)).rise)
  have HZ2 := Lib.hid (show ∀ z ∈ ys, ClAt w2 z from fun z hz => (HZ.out z (hp.mem_iff.1 hz)).below A2)
  clear con hp hsh hb2 b1 hyl
  go_wp2
  go_loopw [4, 10] (fun a i wr => ∃ (k : Nat) (ls : List Cl), k ≤ n ∧ i = .int .i64 k ∧ wr.ownsRow w2.heap.size 84 1 a ls.length (ls.map encC) ∧ Hid ((∀ z ∈ ls, z ∈ ys) ∧ Left (ls.map Prod.snd) ((ys.take k).map Prod.snd) ((ys.drop k).map Prod.snd)) ∧ ls.length ≤ 16 ∧ Boxed wr w.heap.size 26 (.slice none 0 0) ∧ Below w2.heap.size w2 wr) (fun _ i _ => n - (intOf i).toNat)
  case atStart => exact ⟨0, [], Nat.zero_le _, rfl, World.ownsRow_nil _ _ _ _, Lib.hid ⟨fun z hz => (by cases hz), by simpa using H0.out⟩, by simp, b2, Below.refl _ _⟩
  case round =>
    obtain ⟨k, ls, hk, rfl, hrow, HL, h16, hbx, hB⟩ := hrel
    have hBs := hB.size
    obtain ⟨q4, c4, rfl, hle, hmc, hsl4, hqb⟩ := slIn_of_owns hrow
    by_cases hlt : k < n
    · obtain ⟨b, o, rfl, hbl, hc⟩ := (hsl.below hB hsl.lt).at (by omega)
      obtain ⟨⟨⟨zq, zn, zc⟩, zx⟩, hz⟩ : ∃ z, ys[k]? = some z := ⟨_, List.getElem?_eq_getElem (by have := HYL.out; omega)⟩
      have hck : wr.cell? ⟨b, o + k, none⟩ = some (.slice zq zn zc) := hc k _ hz
      have hzm := List.mem_of_getElem? hz
      have hza : ClAt wr ((zq, zn, zc), zx) := (HZ2.out _ hzm).below hB
      obtain ⟨W4, hW4⟩ : ∃ W4, wr.alloc (.cells #[.slice zq zn zc] 84) = W4 := ⟨_, rfl⟩
      have hka : ∀ S, Keep S wr W4 := fun S => hW4 ▸ Keep.alloc S _ _
      have b4 : Boxed W4 wr.heap.size 84 (.slice zq zn zc) := hW4 ▸ Boxed.new wr _ _
      have con := oneImplies_any q4 ls.length c4 (ls.map Prod.snd) (.agg #[.slice zq zn zc]) zx W4 ⟨ls, hsl4.keep (hka (fun _ => True)) (fun _ _ _ => trivial), fun z hz => ((HZ2.out _ (HL.out.1 z hz)).below hB).keep (hka _), rfl⟩ (hza.keep (hka _)).set hza.few (by omega)
      have c4 := b4.cell
      have HW4 := Lib.hid hW4
      clear hc hW4
      have hcm := hza.set
      obtain ⟨t1, t2⟩ := take_snoc ys k _ hz
      have HT1 := Lib.hid t1
      have HT2 := Lib.hid (show Left (ls.map Prod.snd) ((ys.take k).map Prod.snd) (zx :: (ys.drop (k + 1)).map Prod.snd) by have := HL.out.2; rw [t2] at this; exact this)
      have HS3 := Lib.hid (short_rest ys k _ hz HSH.out)
      have HM := Lib.hid hzm
      clear t1 t2 hz hzm hza hcm
      obtain ⟨ob, hob⟩ : ∃ ob, oneB (ls.map Prod.snd) zx = ob := ⟨_, rfl⟩
      have HO := Lib.hid hob
      rw [hob] at con
      clear hob
      go_wp2_with fail
      rw [HW4.out]
      refine con.mono ?_
      rintro e w5 ⟨rfl, hb5⟩
      have hs4 : W4.heap.size = wr.heap.size + 1 := by rw [← HW4.out]; simp
      have hs5 := hb5.size
      have hk5 : Keep (· < wr.heap.size) wr w5 := (hka _).trans ((Keep.of_below hb5).mono fun b _ hb => by omega)
      have hrow5 := hk5.row hrow (fun b hb => (hrow.lt b hb).2)
      have hbx5 := hk5.boxed hbx hbx.lt
      have hB5 : Below w2.heap.size w2 w5 := hB.trans ((hk5.mono fun b _ hb => by omega).below hBs)
      have hBs5 := hB5.size
      have b5 := (Keep.of_below hb5).boxed b4 (by omega)
      have c5 := b5.cell
      clear con hb5 b4 c4 hka hk5 HW4 hrow hbx hsl4 hB
      cases ob with
      | true =>
        have HL2 := Lib.hid (show (∀ z ∈ ls, z ∈ ys) ∧ Left (ls.map Prod.snd) ((ys.take (k + 1)).map Prod.snd) ((ys.drop (k + 1)).map Prod.snd) from ⟨HL.out.1, by
          rw [HT1.out, List.map_append]
          exact HT2.out.skip HO.out HS3.out⟩)
        go_wp2
        go_roundw
        case rel => exact ⟨k + 1, ls, by omega, by go_num, hrow5, HL2, h16, hbx5, hB5⟩
        case measure => simp [intOf]; omega
      | false =>
        have HL2 := Lib.hid (show (∀ z ∈ ls ++ [((zq, zn, zc), zx)], z ∈ ys) ∧ Left ((ls ++ [((zq, zn, zc), zx)]).map Prod.snd) ((ys.take (k + 1)).map Prod.snd) ((ys.drop (k + 1)).map Prod.snd) from ⟨fun z hz => by
          rcases List.mem_append.1 hz with h | h
          · exact HL.out.1 z h
          · rw [List.mem_singleton.1 h]; exact HM.out, by
          rw [HT1.out, List.map_append, List.map_append]
          exact HT2.out.take HO.out HS3.out⟩)
        by_cases hfull : ls.length = 16
        · have d : ((ls.length : Int) == 16) = true := by rw [hfull]; rfl
          have HR := Lib.hid (show ofF xs = .inl 3 from ofF_many xs (ys.map Prod.snd) ((ls ++ [((zq, zn, zc), zx)]).map Prod.snd) ((ys.take (k + 1)).map Prod.snd) ((ys.drop (k + 1)).map Prod.snd) (by rw [HX.out]; exact HP.out.map _) (by rw [← List.map_append, List.take_append_drop]) HL2.out.2 (by simp; omega))
          have kf := hbx5.frozen
          have kc := hbx5.cell
          clear hfull
          go_wp2
          refine bodyPost_ret (ret_frm2 rfl _ _ w.heap.size _ rfl (hbx5.set _)) rfl ?_
          rw [HR.out]
          exact ⟨none, 0, 0, rfl, frm_nil _, (fun a h => by cases h), (A2.trans (hB5.mono A2.size)).setCell (Nat.le_refl _) _⟩
        · have d : ((ls.length : Int) == 16) = false := by rw [beq_eq_false_iff_ne]; omega
          obtain ⟨i0, hi0, hz0, hz1, hz2⟩ := info_parts info_cls
          go_wp2_with (at_builtin; refine wpList_append_own_at _ rfl _ _ 24 rfl w2.heap.size 84 i0 (.agg #[.slice none 0 0]) 1 24 Tryz.underlying24 hi0 hz0 hz1 hz2 rfl (by decide) _ _ _ rfl (hrow5.alloc _) ⟨w5.heap.size, 0, none⟩ 1 1 [.slice zq zn zc] rfl rfl (cell_one_new _ _ _) (by simp [Value.oneCell']) (by unfold maxLen; omega) (by omega) (by simp; omega) ?_; intro v' w6 hown' hgrow _ hat)
          have hb6 : Below w2.heap.size w5 w6 := ((Below.refl _ w5).alloc hBs5 _).grown hgrow (by simp; omega) (fun b hb => (hrow5.lt b hb).1)
          go_roundw
          case rel => exact ⟨k + 1, ls ++ [((zq, zn, zc), zx)], by omega, by go_num, by simpa [encC] using hown', HL2, by simp; omega, (Keep.of_below hb6).boxed hbx5 hs2.out, hB5.trans hb6⟩
          case measure => simp [intOf]; omega
    · obtain rfl : k = n := by omega
      have con2 := sort_any 63 cmpF swoCmp (enters_of Tryz.func63 (by kernel_rfl) rfl) (fun W z1 z2 h1 h2 => clsCmp_grew z1.1.1 z1.1.2.1 z1.1.2.2 z2.1.1 z2.1.2.1 z2.1.2.2 z1.2 z2.2 W h1.set h2.set) w2 (.slice q4 ls.length c4) ls.length ls wr hrow (fun z hz => HZ2.out z (HL.out.1 z hz)) hB (by omega)
      have HR := Lib.hid (show ofF xs = .inr (sortR (ls.map Prod.snd)) from ofF_left xs (ys.map Prod.snd) (ls.map Prod.snd) (by rw [HX.out]; exact HP.out.map _) (by
        have := HL.out.2
        rw [List.take_of_length_le (by have := HYL.out; omega), List.drop_of_length_le (by have := HYL.out; omega)] at this
        exact this) (by simpa using h16))
      have HND := Lib.hid HL.out.2.nodup
      clear hrow hsl4
      go_wp2_with fail
      refine con2.mono ?_
      rintro e w3 ⟨rfl, q5, c5, zs', he, hq5, hp, hs, hsl5, hb3⟩
      cases he
      have hbx3 := (Keep.of_below hb3).boxed hbx hs2.out
      have hB3 : Below w2.heap.size w2 w3 := hB.trans hb3
      have hA3 := (A2.trans (hB3.mono A2.size)).setCell (p := ⟨w.heap.size, 0, none⟩) (Nat.le_refl _) (.slice q4 ls.length c4)
      have HE := Lib.hid (show sortR (ls.map Prod.snd) = zs'.map Prod.snd from (sorted_is (ls.map Prod.snd) (zs'.map Prod.snd) (hp.map _) HND.out fun i j x y hij hi hj => by
        rw [List.getElem?_map] at hi hj
        cases hi' : zs'[i]? with
        | none => rw [hi'] at hi; cases hi
        | some x' =>
          cases hj' : zs'[j]? with
          | none => rw [hj'] at hj; cases hj
          | some y' =>
            rw [hi'] at hi
            rw [hj'] at hj
            cases hi
            cases hj
            have h1 := hs i j x' y' hij hi' hj'
            exact fun h => by
              have h2 := (cmpL_neg _ _).2 h
              have e : cmpF y' x' = cmpL y'.2 x'.2 := rfl
              omega).symm)
      have HPP := Lib.hid hp
      have kf := hbx3.frozen
      have kc := hbx3.cell
      clear con2 hp hs hb3
      go_wp2
      refine bodyPost_ret (ret_frm2 rfl _ _ w.heap.size _ rfl (hbx3.set _)) rfl ?_
      rw [HR.out]
      refine ⟨q4, ls.length, c4, rfl, ⟨q4, ls.length, c4, rfl, hq5, hle, zs', slIn_set w.heap.size _ hsl5 (fun a ha => ?_), fun z hz => ?_, HE.out⟩, (fun a ha => by have := (hqb a ha).1; have := hs2.out; omega), hA3⟩
      · have := (hqb a ha).1
        have := hs2.out
        omega
      · exact (HZ.out z (HP.out.mem_iff.1 (HL.out.1 z (HPP.out.mem_iff.1 hz)))).below hA3

end Go.Proofs.YtpabhppghljipaaGreatDoor.Frm

namespace Go.Proofs.YtpabhppghljipaaGreatDoor.Frm
open Go.RowKit Go.Shelf Go.Sort Url Org Cls
attribute [local go_sem] Oper.semAt_some
set_option linter.unusedVariables false

/-- A clause, as yield takes it. -/
def ClArg (z : Cl) (args : Array Value) (G : Nat → Prop) (_W : World) : Prop := args = #[.agg #[encC z]] ∧ G = fun _ => False

theorem frmAll_any (q : Option Addr) (n c : Nat) (w : World) :
    Calls Tryz.prog 35 #[.agg #[.slice q n c]] w fun e w' => e = .returned (.func (.func 75) #[] #[.pointer (some ⟨w.heap.size + 1, 0, none⟩)]) ∧
      w' = (w.alloc (.cells #[.slice q n c] 26)).alloc (.cells #[.slice q n c] 24) := by
  have con : ∀ W : World, Calls Tryz.prog 56 #[.slice q n c] W fun e w' => e = .returned (.func (.func 75) #[] #[.pointer (some ⟨W.heap.size, 0, none⟩)]) ∧ w' = W.alloc (.cells #[.slice q n c] 24) := fun W => by
    go_enter Tryz.func56, Tryz.ntmps56
    go_wp2
    go_ret
    exact ⟨rfl, rfl⟩
  go_enter Tryz.func35, Tryz.ntmps35
  go_wp2_with fail
  refine (con _).mono ?_
  rintro e w' ⟨rfl, rfl⟩
  go_wp2
  go_ret
  exact ⟨by simp, rfl⟩

set_option maxRecDepth 100000 in
set_option maxHeartbeats 2000000 in
theorem Values1_iter (B : Nat) (q : Option Addr) (n c : Nat) (zs : List Cl) (RB : Nat → Prop) (w0 : World) (hm : n ≤ 140737488355328)
    (h : SlIn encC w0 q n zs) (hq : ∀ a, q = some a → 0 < n → RB a.block) (b : Boxed w0 B 24 (.slice q n c)) (hR : RB B) (hRs : ∀ b, RB b → b < w0.heap.size) :
    IterC Tryz.prog 75 #[.pointer (some ⟨B, 0, none⟩)] ClArg zs RB w0 := by
  intro l J Jx W hW hJ hJx hY h0
  refine (callsIn_wide (n := 1)).1 ?_
  refine callsIn_of_wp Tryz.func75 rfl trivial ?_ rfl
  simp only [Tryz.ntmps75, List.size_toArray, List.length_cons, List.length_nil, Nat.reduceAdd, Nat.reduceSub, Array.replicate_succ, Array.replicate_zero, List.push_toArray, List.append_toArray, List.nil_append, List.cons_append]
  have k1 := (hW.boxed b hR).cell
  have hl := Lib.hid h.1
  gi_wp2
  gi_loopw [7] (fun i wr => ∃ k : Nat, ∃ pre, k ≤ n ∧ i = .int .i64 k ∧ Keep RB W wr ∧ Hid (zs = pre ++ zs.drop k) ∧ J pre (fun _ => False) wr) (fun i _ => n - (intOf i).toNat)
  case atStart => exact ⟨0, [], Nat.zero_le _, rfl, Keep.refl _ _, rfl, h0⟩
  case round =>
    obtain ⟨k, pre, hk, rfl, hK, HX, hJr⟩ := hrel
    by_cases hlt : k < n
    · obtain ⟨bb, o, rfl, hb, hc⟩ := (h.keep (hW.trans hK) hq).at (by omega)
      obtain ⟨x, hx, hd⟩ := drop_getElem zs k (by rw [hl.out]; exact hlt)
      obtain ⟨⟨xq, xn, xc⟩, xp⟩ := x
      have hck : wr.cell? ⟨bb, o + k, none⟩ = some (.slice xq xn xc) := hc k _ hx
      have HX2 := Lib.hid (show zs = pre ++ ((xq, xn, xc), xp) :: zs.drop (k + 1) by rw [← hd]; exact HX.out)
      have hka : ∀ S, Keep S wr (wr.alloc (.cells #[.slice xq xn xc] 84)) := fun S => Keep.alloc S _ _
      obtain ⟨fn, tmps, assign, body, hy, hRR⟩ := hY pre ((xq, xn, xc), xp) _ (fun _ => False) (fun _ => False) #[.agg #[.slice xq xn xc]] (wr.alloc (.cells #[.slice xq xn xc] 84)) HX2.out (hJ _ _ _ _ _ hJr (hka _) (fun _ h => h.elim)) (fun _ h => h.elim) ⟨rfl, rfl⟩ (fun _ h => h)
      clear HX hd hx hc hY h hb
      gi_wp2_with fail
      refine hRR.mono ?_
      rintro e W4 ⟨hk3, (⟨rfl, hJ3⟩ | ⟨rfl, hJx3⟩)⟩
      · gi_wp2
        go_roundw
        case rel => exact ⟨k + 1, pre ++ [((xq, xn, xc), xp)], by omega, by go_num, hK.trans ((hka _).trans (hk3.mono fun _ _ h => .inl h)), Lib.hid (show zs = (pre ++ [((xq, xn, xc), xp)]) ++ zs.drop (k + 1) by rw [List.append_assoc]; exact HX2.out), hJ _ _ _ _ _ hJ3 (Keep.refl _ _) (fun _ h => h.elim)⟩
        case measure => simp [intOf]; omega
      · gi_wp2
        refine bodyPost_ret (results_none rfl _ _ _) rfl ?_
        exact ⟨⟨_, rfl⟩, fun _ => False, fun _ h => h.elim, .inr ⟨pre ++ [((xq, xn, xc), xp)], _, by rw [HX2.out, List.append_assoc]; rfl, hJx _ _ _ _ _ hJx3 (Keep.refl _ _) (fun _ h => h.elim)⟩⟩
    · have HX2 := Lib.hid (show zs = pre by rw [HX.out, List.drop_of_length_le (by rw [hl.out]; omega)]; simp)
      clear HX hY h
      gi_wp2
      refine bodyPost_end (results_none rfl _ _ _) rfl ?_
      exact ⟨⟨_, rfl⟩, fun _ => False, fun _ h => h.elim, .inl (by rw [HX2.out]; exact hJr)⟩

theorem Always_any (w : World) : Calls Tryz.prog 23 #[] w fun e w' => e = .returned (.agg #[.slice none 0 0]) ∧ Below w.heap.size w w' := by
  have k0 := (Boxed.new w 26 (.slice none 0 0)).cell
  go_enter Tryz.func23, Tryz.ntmps23
  go_wp2
  refine bodyPost_ret (v := .agg #[.slice none 0 0]) (by simp [results, Tryz.f23, go_sem]) rfl ?_
  exact ⟨rfl, below_alloc _⟩

/-- What lies while the clauses are gone through. -/
def ImpE (w : World) (f : List (List (List UInt8))) (q : Option Addr) (n c : Nat) (pre : List Cl) (W : World) : Prop :=
  Boxed W w.heap.size 26 (.slice q n c) ∧ Boxed W (w.heap.size + 2) 4 (.bool false) ∧ (∀ z ∈ pre, oneB f z.2 = true) ∧ Below w.heap.size w W
def ImpX (w : World) (f g : List (List (List UInt8))) (_ : List Cl) (W : World) : Prop :=
  Boxed W (w.heap.size + 2) 4 (.bool false) ∧ impB f g = false ∧ Below w.heap.size w W

set_option maxRecDepth 100000 in
set_option maxHeartbeats 8000000 in
theorem Implies_any (v1 v2 : Value) (f g : List (List (List UInt8))) (w : World) (h1 : FrmIs w v1 f) (h2 : FrmIs w v2 g) (lf : f.length ≤ 1099511627776) (lg : g.length ≤ 1099511627776) :
    Calls Tryz.prog 46 #[v1, v2] w fun e w' => e = .returned (.bool (impB f g)) ∧ Below w.heap.size w w' := by
  obtain ⟨q1, n1, c1, rfl⟩ := frm_form h1
  obtain ⟨q2, n2, c2, rfl⟩ := frm_form h2
  obtain ⟨_, _, r1⟩ := h1.row
  obtain ⟨_, _, r2⟩ := h2.row
  have e1 := r1.len
  have e2 := r2.len
  obtain ⟨zs, s2, z2, hg⟩ := r2
  refine (callsIn_wide (n := 1)).1 ?_
  refine callsIn_of_wp_marks Tryz.func46 rfl trivial ?_ rfl
  simp only [Tryz.ntmps46, List.size_toArray, List.length_cons, List.length_nil, Nat.reduceAdd, Nat.reduceSub, Array.replicate_succ, Array.replicate_zero, List.push_toArray, List.append_toArray, List.nil_append, List.cons_append]
  obtain ⟨W0, hW0⟩ : ∃ W0, ((w.alloc (.cells #[.slice q1 n1 c1] 26)).alloc (.cells #[.slice q2 n2 c2] 26)).alloc (.cells #[.bool false] 4) = W0 := ⟨_, rfl⟩
  have b0 : Boxed W0 w.heap.size 26 (.slice q1 n1 c1) := hW0 ▸ ((Boxed.new w _ _).alloc _).alloc _
  have b1 : Boxed W0 (w.heap.size + 1) 26 (.slice q2 n2 c2) := by
    have := (Boxed.new (w.alloc (.cells #[.slice q1 n1 c1] 26)) 26 (.slice q2 n2 c2)).alloc (.cells #[.bool false] 4)
    rw [World.size_alloc] at this
    exact hW0 ▸ this
  have b2 : Boxed W0 (w.heap.size + 2) 4 (.bool false) := by
    have := Boxed.new ((w.alloc (.cells #[.slice q1 n1 c1] 26)).alloc (.cells #[.slice q2 n2 c2] 26)) 4 (.bool false)
    rw [World.size_alloc, World.size_alloc] at this
    exact hW0 ▸ this
  have hB0 : Below w.heap.size w W0 := hW0 ▸ (((Below.refl _ w).alloc (Nat.le_refl _) _).alloc (by simp) _).alloc (by simp; omega) _
  have hs0 : W0.heap.size = w.heap.size + 3 := by rw [← hW0]; simp
  have con := frmAll_any q2 n2 c2 W0
  have k1 := b1.cell
  have HW0 := Lib.hid hW0
  clear hW0
  gi_wp2_with fail
  rw [HW0.out]
  gi_wp2_with fail
  refine ⟨trivial, (callsIn_wide.2 con).mono ?_⟩
  rintro e W1 ⟨rfl, hW1⟩
  have bv : Boxed W1 (W0.heap.size + 1) 24 (.slice q2 n2 c2) := by
    have := Boxed.new (W0.alloc (.cells #[.slice q2 n2 c2] 26)) 24 (.slice q2 n2 c2)
    rw [World.size_alloc] at this
    exact hW1 ▸ this
  have hbel : Below W0.heap.size W0 W1 := hW1 ▸ ((Below.refl _ W0).alloc (Nat.le_refl _) _).alloc (by simp) _
  have hs1 : W1.heap.size = W0.heap.size + 2 := by rw [hW1]; simp
  have hB1 := hB0.trans (hbel.mono hB0.size)
  have hit := Values1_iter (W0.heap.size + 1) q2 n2 c2 zs (fun b => b < W1.heap.size ∧ b ≠ w.heap.size + 2) W1 (by omega) (s2.below hB1 s2.lt) (fun a h h' => by have := s2.lt a h h'; omega) bv (by omega) (fun b hb => hb.1)
  replace b0 := (Keep.of_below hbel).boxed b0 b0.lt
  replace b2 := (Keep.of_below hbel).boxed b2 b2.lt
  have HI := Lib.hid (show impB f g = zs.all (fun z => oneB f z.2) by rw [imp_all, hg, List.all_map]; rfl)
  have r1' := r1
  have z2' := z2
  clear con k1 bv hW1 HW0 hg
  gi_wp2
  rw [hs0] at hs1 hit
  refine rf_law (gf := 75) (lb := #[.pointer (some ⟨w.heap.size + 3 + 1, 0, none⟩)]) rfl (enters_of Tryz.func75 (by kernel_rfl) rfl)
    hit (Keep.refl _ _) (fun b hb => hb.1) (fun x args G W h => by rw [h.1]; rfl)
    (Host.EvI W1 (ImpE w f q1 n1 c1)) (Host.EvX W1 (ImpX w f g)) (Host.EvI_abide ?e1) (Host.EvX_abide ?e2)
    ⟨(fun _ h => h.elim), Keep.refl _ _, b0, b2, (fun z hz => by cases hz), hB1⟩ ?round ?done ?stop
  case e1 =>
    rintro pre A B hk ⟨h1, h2, h3, h4⟩
    exact ⟨hk.boxed h1 (by omega), hk.boxed h2 (by omega), h3, h4.trans ((hk.mono fun b _ hb => by omega).below h4.size)⟩
  case e2 =>
    rintro pre A B hk ⟨h1, h3, h4⟩
    exact ⟨hk.boxed h1 (by omega), h3, h4.trans ((hk.mono fun b _ hb => by omega).below h4.size)⟩
  case round =>
    rintro ll pre ⟨⟨xq, xn, xc⟩, x⟩ rest Pv G args Wr hll hxs ⟨hge, hK1, hE1, hE2, hE3, hE4⟩ hPl hGl hPb hGP ⟨harg, rfl⟩
    obtain rfl : args = #[.agg #[.slice xq xn xc]] := harg
    have hxm : ((xq, xn, xc), x) ∈ zs := by rw [hxs]; simp
    clear hxs
    have hll2 := hPb ll hPl
    gi_wp2
    refine ⟨Keep.alloc _ _ _, fun W2 hk2 hs2 r hr => ?_⟩
    have hka := Keep.alloc (fun _ => True) Wr (.cells #[.slice xq xn xc] 84)
    have bx := hk2.boxed (Boxed.new Wr 84 (.slice xq xn xc)) (by omega)
    have k2 : Keep (fun b => b < W1.heap.size) Wr W2 := (hka.mono fun _ _ _ => trivial).trans (hk2.mono fun b _ hb h => by omega)
    have f1 := k2.boxed hE1 (by omega)
    have f2 := k2.boxed hE2 (by omega)
    have hW2 := hE4.trans ((k2.mono fun b _ h => by omega).below hE4.size)
    have hz := (z2' _ hxm).below hW2
    have con2 := oneImplies_any q1 n1 c1 f (.agg #[.slice xq xn xc]) x W2 (r1'.below hW2) hz.set hz.few (by omega)
    have hK2 : Keep (fun _ => False) W1 W2 := hK1.trans ((hka.mono fun _ _ h => h.elim).trans (hk2.mono fun _ _ h => h.elim))
    have c1' := f1.cell
    have cx := bx.cell
    have hs2' := hW2.size
    have hsz2 : W1.heap.size ≤ W2.heap.size := hK2.size
    clear hk2 hka hr hs2 hz
    obtain ⟨ob, hob⟩ : ∃ ob, oneB f x = ob := ⟨_, rfl⟩
    rw [hob] at con2
    have HO := Lib.hid hob
    clear hob
    cases ob with
    | true =>
      gi_wp2_with fail
      refine ⟨trivial, rfl, (CallsIn.inRound ll (callsIn_wide.2 con2)).mono ?_⟩
      rintro e w' ⟨rfl, hb'⟩
      have kb := Keep.of_below hb'
      clear con2
      gi_wp2
      refine ⟨kb.mono fun b hb _ => hb, fun b hb => hge b hb, hK2.trans (kb.mono fun _ _ h => h.elim), kb.boxed f1 f1.lt, kb.boxed f2 f2.lt, fun z hz => ?_, hW2.trans (hb'.mono hs2')⟩
      rcases List.mem_append.1 hz with h | h
      · exact hE3 z h
      · rw [List.mem_singleton.1 h]; exact HO.out
    | false =>
      have HB := Lib.hid (show impB f g = false by
        rw [HI.out, List.all_eq_false]; exact ⟨_, hxm, by rw [HO.out]; simp⟩)
      gi_wp2_with fail
      refine ⟨trivial, rfl, (CallsIn.inRound ll (callsIn_wide.2 con2)).mono ?_⟩
      rintro e w' ⟨rfl, hb'⟩
      have kb := Keep.of_below hb'
      have g2 := kb.boxed f2 f2.lt
      have zf := g2.frozen
      have zc := g2.cell
      clear con2
      gi_wp2
      have kst : ∀ S : Nat → Prop, ¬ S (w.heap.size + 2) → Keep S w' (w'.setCell ⟨w.heap.size + 2, 0, none⟩ (.bool false)) := fun S h => Keep.setCell _ _ _ h
      refine ⟨(kb.mono fun b hb _ => hb).trans (kst _ (fun h => ?_)), rfl, fun b hb => hge b hb, hK2.trans ((kb.mono fun _ _ h => h.elim).trans (kst _ (fun h => h))), g2.set _, HB.out, (hW2.trans (hb'.mono hs2')).setCell (p := ⟨w.heap.size + 2, 0, none⟩) (by simp) _⟩
      rcases h with h | h
      · exact h.2 rfl
      · have := hge _ h; omega
  case done =>
    rintro D Pv Wd hD hPD hPl ⟨hge, hK1, hE1, hE2, hE3, hE4⟩ hK
    have c2 := hE2.cell
    have zf := hE2.frozen
    gi_wp2
    have hKd : (Wd.setCell ⟨w.heap.size + 2, 0, none⟩ (.bool true)).heap[D]? = some (.deferred (some [])) := (Keep.setCell (S := fun b => b = D) Wd ⟨w.heap.size + 2, 0, none⟩ _ (show ¬ w.heap.size + 2 = D by omega)).heap rfl hK
    have kp : ∀ (S : Nat → Prop) (W : World), ¬ S D → Keep S W (W.putObj D (.deferred none)) := fun S W h => Keep.putObj _ _ _ h
    refine ⟨by simp, .inl ⟨_, _, rfl, run_takeDeferred hKd, ?_⟩⟩
    refine ⟨_, Host.results_bool rfl _ _ (w.heap.size + 2) _ rfl ((kp (fun b => b = w.heap.size + 2) _ (by omega)).boxed (hE2.set _) rfl).cell, ?_, ?_⟩
    · have : impB f g = true := by rw [HI.out, List.all_eq_true]; exact hE3
      rw [this]
    · have h5 := hE4.setCell (p := ⟨w.heap.size + 2, 0, none⟩) (by simp) (.bool true)
      exact h5.trans ((kp (fun b => b < w.heap.size) _ (by omega)).below h5.size)
  case stop =>
    rintro D cc pre rest Pv Wd hD hPD hPl hxs ⟨rfl, hge, hK1, hE1, hE3, hE4⟩ hK
    have kp : ∀ (S : Nat → Prop) (W : World), ¬ S D → Keep S W (W.putObj D (.deferred none)) := fun S W h => Keep.putObj _ _ _ h
    clear hxs
    gi_wp2
    refine ⟨by simp, .inl ⟨_, _, rfl, run_takeDeferred hK, ?_⟩⟩
    refine ⟨_, Host.results_bool rfl _ _ (w.heap.size + 2) _ rfl ((kp (fun b => b = w.heap.size + 2) _ (by omega)).boxed hE1 rfl).cell, ?_, ?_⟩
    · rw [hE3]
    · exact hE4.trans ((kp (fun b => b < w.heap.size) _ (by omega)).below hE4.size)

end Go.Proofs.YtpabhppghljipaaGreatDoor.Frm

namespace Go.Proofs.YtpabhppghljipaaGreatDoor.Frm
open Go.RowKit Go.Shelf Go.Sort Url Org Cls
attribute [local go_sem] Oper.semAt_some
set_option linter.unusedVariables false

theorem results_cell_cell {fn : Func} {p u : Tmp} {ty ty2 : TypeId} (h : fn.results = #[.cell p ty, .cell u ty2]) (tmps : Array Value) (P : Program) (w : World) :
    (results fn tmps).run P w =
      ((asAddr (tmps.getD p undef)).run P w).andThen fun a w₁ => ((loadVar ty a).run P w₁).andThen fun v w₂ => ((asAddr (tmps.getD u undef)).run P w₂).andThen fun b w₃ => ((loadVar ty2 b).run P w₃).andThen fun x w₄ => .ok (.tuple #[v, x]) w₄ := by
  simp only [results, h]
  simp [Sem.run_bind, Result.andThen]
theorem ret_frm22 {fn : Func} {p u : Tmp} (h : fn.results = #[.cell p 26, .cell u 42]) (tmps : Array Value) (w : World) (B Be : Nat) (v x : Value) (hp : tmps.getD p undef = .pointer (some ⟨B, 0, none⟩)) (hu : tmps.getD u undef = .pointer (some ⟨Be, 0, none⟩)) (hU : Boxed w B 26 v) (hE : w.cell? ⟨Be, 0, none⟩ = some x) :
    (results fn tmps).run Tryz.prog w = .ok (.tuple #[.agg #[v], x]) w := by
  rw [results_cell_cell h, hp, hu]
  have ha : ∀ w', (isAgg 42).run Tryz.prog w' = .ok false w' := Tryz.isAgg42
  have h2 : (loadVar 42 ⟨Be, 0, none⟩).run Tryz.prog w = .ok x w := by simp [loadVar, ha, hE]
  simp [asAddr, Result.andThen, run_loadVar_row w B 26 _ #[v] (0, 0) _ hU Tryz.underlying26 rfl (by kernel_rfl), h2]

theorem clauses_snoc (x : List UInt8) (c : List (List UInt8)) (hx : parseC x = .inr c) : ∀ (pre : List (List UInt8)) (r : List (List (List UInt8))), clausesL pre = .inr r → clausesL (pre ++ [x]) = .inr (r ++ [c])
  | [], r, h => by
    cases h
    show clausesL [x] = _
    unfold clausesL
    rw [hx]; rfl
  | p :: l, r, h => by
    unfold clausesL at h
    split at h
    · cases h
    · rename_i y hy
      split at h
      · cases h
      · rename_i z hz
        cases h
        have := clauses_snoc x c hx l z hz
        rw [List.cons_append]
        unfold clausesL
        rw [hy]
        simp only
        rw [this]; rfl
theorem clauses_err (x : List UInt8) (e : Int) (hx : parseC x = .inl e) (rest : List (List UInt8)) : ∀ (pre : List (List UInt8)) (r : List (List (List UInt8))), clausesL pre = .inr r → clausesL (pre ++ x :: rest) = .inl e
  | [], r, h => by
    show clausesL (x :: rest) = _
    unfold clausesL
    rw [hx]
  | p :: l, r, h => by
    unfold clausesL at h
    split at h
    · cases h
    · rename_i y hy
      split at h
      · cases h
      · rename_i z hz
        have := clauses_err x e hx rest l z hz
        rw [List.cons_append]
        unfold clausesL
        rw [hy]
        simp only
        rw [this]
theorem parseC_no (t : List UInt8) (n : Int) (h : parseC t = .inl n) : n = 2 ∨ n = 3 := by
  unfold parseC at h
  split at h
  · cases h; exact .inr rfl
  · split at h
    · cases h
    · unfold ofC at h
      split at h
      · split at h
        · cases h
        · cases h; exact .inr rfl
      · cases h; exact .inl rfl
theorem parseF_long (t : List UInt8) (h : 4096 < t.length) : parseF t = .inl 3 := by unfold parseF; rw [if_pos h]
theorem parseF_always (t : List UInt8) (h : ¬ 4096 < t.length) (h2 : trimB t = alwaysS) : parseF t = .inr [] := by unfold parseF; rw [if_neg h, if_pos h2]
theorem parseF_err (t : List UInt8) (e : Int) (h : ¬ 4096 < t.length) (h2 : trimB t ≠ alwaysS) (h3 : clausesL ((splitX 38 t).map Prod.snd) = .inl e) : parseF t = .inl e := by
  rw [Host.splitX_snd] at h3
  unfold parseF; rw [if_neg h, if_neg h2, h3]
theorem parseF_of (t : List UInt8) (l : List (List (List UInt8))) (h : ¬ 4096 < t.length) (h2 : trimB t ≠ alwaysS) (h3 : clausesL ((splitX 38 t).map Prod.snd) = .inr l) : parseF t = ofF l := by
  rw [Host.splitX_snd] at h3
  unfold parseF; rw [if_neg h, if_neg h2, h3]

theorem FrmIs.put {w : World} {q : Option Addr} {n c : Nat} {f : List (List (List UInt8))} {D : Nat} {d : Option (List Deferred)} {o : Obj} (h : FrmIs w (.agg #[.slice q n c]) f) (hD : w.heap[D]? = some (.deferred d)) : FrmIs (w.putObj D o) (.agg #[.slice q n c]) f := by
  obtain ⟨h1, h2, zs, s, z, rfl⟩ := h.row
  exact ⟨q, n, c, rfl, h1, h2, zs, slC_put s hD, fun x hx => ⟨set_put (z x hx).set hD, (z x hx).few⟩, rfl⟩
/-- A clause whose row is none of these blocks'. -/
theorem ClAt.from {S : Nat → Prop} {w w' : World} {z : Cl} (h : ClAt w z) (hk : Keep S w w') (hS : ∀ a, z.1.1 = some a → 0 < z.1.2.1 → S a.block) : ClAt w' z := by
  obtain ⟨⟨q, n, c, he, h1, h2, h3, h4⟩, h5⟩ := h
  cases he
  exact ⟨⟨_, _, _, rfl, h1, h2, h3.keep hk hS, h4⟩, h5⟩
theorem ClAt.lt {w : World} {z : Cl} (h : ClAt w z) : ∀ a, z.1.1 = some a → 0 < z.1.2.1 → a.block < w.heap.size := by
  obtain ⟨⟨q, n, c, he, h1, h2, h3, h4⟩, h5⟩ := h
  cases he
  exact h3.lt

/-- Between two rounds: the clauses that have come lie in the box's row. -/
def PfI (Bo : Nat) (RB : Nat → Prop) (W0 : World) (pre : List (Nat × List UInt8)) (Pv : Nat → Prop) (W : World) : Prop :=
  ∃ v, ∃ ls : List Cl, Boxed W Bo 24 v ∧ W.ownsRow W0.heap.size 84 1 v ls.length (ls.map encC) ∧ (∀ z ∈ ls, ClAt W z ∧ ∀ a, z.1.1 = some a → 0 < z.1.2.1 → ¬ Pv a.block ∧ W0.heap.size ≤ a.block ∧ v.ownBlock ≠ some a.block) ∧ clausesL (pre.map Prod.snd) = .inr (ls.map Prod.snd) ∧
    (∀ b, Pv b → W0.heap.size ≤ b) ∧ (∀ b, v.ownBlock = some b → ¬ Pv b) ∧ Keep RB W0 W ∧ ls.length = pre.length
theorem PfI_abide (Bo : Nat) (RB : Nat → Prop) (W0 : World) (hBo : Bo < W0.heap.size) (hRB : ∀ b, RB b → b < W0.heap.size) : Abide (PfI Bo RB W0) := by
  rintro pre Pv Pv' A B ⟨v, ls, h1, h2, hz, hc, h3, h5, h6, h7⟩ hk hp
  have hs := h6.size
  refine ⟨v, ls, hk.boxed h1 (fun h => by have := h3 _ h; omega), hk.row h2 h5, fun z hz' => ⟨(hz z hz').1.from hk (fun a ha h0 => ((hz z hz').2 a ha h0).1), fun a ha h0 => ⟨fun hp' => ?_, ((hz z hz').2 a ha h0).2⟩⟩, hc, fun b hb => ?_, fun b hb hp' => ?_, h6.trans (hk.mono fun b _ hb hpb => by have := h3 b hpb; have := hRB b hb; omega), h7⟩
  · rcases (hp _ hp').1 with h | h
    · exact ((hz z hz').2 a ha h0).1 h
    · have := (hz z hz').1.lt a ha h0; omega
  · rcases (hp b hb).1 with h | h
    · exact h3 b h
    · omega
  · rcases (hp _ hp').1 with h | h
    · exact h5 b hb h
    · have := (h2.lt b hb).2; omega
/-- Where a clause's error has left the loop. -/
def PfX (w : World) (xs : List (Nat × List UInt8)) (W0 : World) (c : Code) (_ : List (Nat × List UInt8)) (Pv : Nat → Prop) (W : World) : Prop :=
  c = .ret ∧ ∃ n : Int, Boxed W w.heap.size 26 (.slice none 0 0) ∧ Boxed W (w.heap.size + 1) 42 (.int .i64 n) ∧ clausesL (xs.map Prod.snd) = .inl n ∧ Below w.heap.size w W ∧ (∀ b, Pv b → W0.heap.size ≤ b)
theorem PfX_abide (w : World) (xs : List (Nat × List UInt8)) (W0 : World) (h0 : w.heap.size + 2 ≤ W0.heap.size) (hW : True) (c : Code) : Abide (fun pre Pv W => PfX w xs W0 c pre Pv W ∧ W0.heap.size ≤ W.heap.size) := by
  rintro pre Pv Pv' A B ⟨⟨hc, n, h1, h2, h3, h4, h5⟩, h6⟩ hk hp
  have hs := hk.size
  refine ⟨⟨hc, n, hk.boxed h1 (fun h => by have := h5 _ h; omega), hk.boxed h2 (fun h => by have := h5 _ h; omega), h3, h4.trans ((hk.mono fun b _ hb hpb => by have := h5 b hpb; omega).below h4.size), fun b hb => ?_⟩, by omega⟩
  rcases (hp b hb).1 with h | h
  · exact h5 b h
  · omega

set_option maxRecDepth 100000 in
set_option maxHeartbeats 16000000 in
theorem Parse_any (q : Option Addr) (n c : Nat) (t : List UInt8) (w : World) (hby : By w (.slice q n c) t) (hn : n ≤ 1300 ∨ 4096 < n ∧ n ≤ 1099511627775) (hG : Gl w) :
    Calls Tryz.prog 32 #[.slice q n c] w (FrmOut (parseF t) w) := by
  obtain ⟨i0, hi0, hz0, hz1, hz2⟩ := info_parts info_cls
  have hl := hby.at.1
  obtain ⟨W1, hW1⟩ : ∃ W1, (w.alloc (.cells #[.slice none 0 0] 26)).alloc (.cells #[.int .i64 0] 42) = W1 := ⟨_, rfl⟩
  have A1 : Below w.heap.size w W1 := hW1 ▸ ((Below.refl _ w).alloc (Nat.le_refl _) _).alloc (by simp) _
  have bR : Boxed W1 w.heap.size 26 (.slice none 0 0) := hW1 ▸ (Boxed.new w _ _).alloc _
  have bE : Boxed W1 (w.heap.size + 1) 42 (.int .i64 0) := by
    have := Boxed.new (w.alloc (.cells #[.slice none 0 0] 26)) 42 (.int .i64 0)
    rw [World.size_alloc] at this
    exact hW1 ▸ this
  have hs1 : W1.heap.size = w.heap.size + 2 := by rw [← hW1]; simp
  have HW1 := Lib.hid hW1
  clear hW1
  refine (callsIn_wide (n := 1)).1 ?_
  refine callsIn_of_wp_marks Tryz.func32 rfl trivial ?_ rfl
  simp only [Tryz.ntmps32, List.size_toArray, List.length_cons, List.length_nil, Nat.reduceAdd, Nat.reduceSub, Array.replicate_succ, Array.replicate_zero, List.push_toArray, List.append_toArray, List.nil_append, List.cons_append]
  by_cases hbig : 4096 < n
  · have d : decide ((4096 : Int) < (n : Int)) = true := by simp; omega
    have HR := Lib.hid (parseF_long t (by omega))
    have b4 : Boxed ((w.alloc (.cells #[.slice none 0 0] 26)).alloc (.cells #[.int .i64 3] 42)) w.heap.size 26 (.slice none 0 0) := (Boxed.new w _ _).alloc _
    have e4 := (Boxed.new (w.alloc (.cells #[.slice none 0 0] 26)) 42 (.int .i64 3)).cell
    rw [World.size_alloc] at e4
    clear hby hl hn hG
    gi_wp2
    refine ⟨_, ret_frm22 rfl _ _ w.heap.size (w.heap.size + 1) _ _ rfl rfl b4 e4, ?_⟩
    rw [HR.out]
    exact ⟨none, 0, 0, rfl, frm_nil _, (fun a h => by cases h), ((Below.refl _ w).alloc (Nat.le_refl _) _).alloc (by simp) _⟩
  have hn2 : n ≤ 1300 := by omega
  have d : decide ((4096 : Int) < (n : Int)) = false := by simp; omega
  have hb1 := hby.on A1
  have con := Trim_by q n c t W1 hb1 (by omega)
  have HT := Lib.hid (trim_len t)
  have HG := Lib.hid hG
  have HL := Lib.hid hl
  have HP1 := Lib.hid (fun h2 => parseF_always t (by omega) h2)
  have HP2 := Lib.hid (fun h2 l h3 => parseF_of t l (by omega) h2 h3)
  have HP3 := Lib.hid (fun h2 e h3 => parseF_err t e (by omega) h2 h3)
  clear hby hn hG
  obtain ⟨T, hT⟩ : ∃ T, Cls.trimB t = T := ⟨_, rfl⟩
  rw [hT] at con HP1 HP2 HP3 HT
  clear hT hbig
  gi_wp2_with fail
  rw [HW1.out]
  gi_wp2_with fail
  refine ⟨trivial, (callsIn_wide.2 con).mono ?_⟩
  rintro e W2 ⟨q2, c2, rfl, hb2, hbel⟩
  have hcv := conv_by hb2
  have hb0 := hb1.on hbel
  replace bR := (Keep.of_below hbel).boxed bR bR.lt
  replace bE := (Keep.of_below hbel).boxed bE bE.lt
  have A2 := A1.trans (hbel.mono A1.size)
  have hs2 := hbel.size
  have e1 : (T == [97, 108, 119, 97, 121, 115]) = decide (T = alwaysS) := by
    rw [Bool.eq_iff_iff, beq_iff_eq, decide_eq_true_iff]; rfl
  generalize hlT : T.length = m at *
  clear con hb1 hb2 hbel hlT HW1
  by_cases hnv : T = alwaysS
  · have HR := Lib.hid (HP1.out hnv)
    rw [decide_eq_true hnv] at e1
    have con := Always_any W2
    clear hnv HP1 HP2 HP3 hb0
    gi_wp2_with fail
    refine ⟨trivial, (callsIn_wide.2 con).mono ?_⟩
    rintro e W3 ⟨rfl, hb3⟩
    replace bR := (Keep.of_below hb3).boxed bR bR.lt
    replace bE := (Keep.of_below hb3).boxed bE bE.lt
    have A3 := A2.trans (hb3.mono A2.size)
    have kf := bR.frozen
    have kc := bR.cell
    have b3 := (bR.set (.slice none 0 0))
    have e3 := (Keep.setCell (S := fun b => b = w.heap.size + 1) W3 ⟨w.heap.size, 0, none⟩ (.slice none 0 0) (by simp)).boxed bE rfl
    have ef3 := e3.frozen
    have ec3 := e3.cell
    have b4 := (Keep.setCell (S := fun b => b = w.heap.size) (W3.setCell ⟨w.heap.size, 0, none⟩ (.slice none 0 0)) ⟨w.heap.size + 1, 0, none⟩ (.int .i64 0) (by simp)).boxed b3 rfl
    have e4 := (e3.set (.int .i64 0)).cell
    clear con hb3
    gi_wp2
    refine ⟨_, ret_frm22 rfl _ _ w.heap.size (w.heap.size + 1) _ _ rfl rfl b4 e4, ?_⟩
    rw [HR.out]
    exact ⟨none, 0, 0, rfl, frm_nil _, (fun a h => by cases h), (A3.setCell (by simp) _).setCell (by simp) _⟩
  have HN := Lib.hid hnv
  rw [decide_eq_false hnv] at e1
  clear hnv HP1
  obtain ⟨h1, h2, h3, h4, h5⟩ := hb0.at
  obtain ⟨W3, hW3⟩ : ∃ W3, W2.alloc (.cells #[.slice none 0 0] 24) = W3 := ⟨_, rfl⟩
  have b0 : Boxed W3 W2.heap.size 24 (.slice none 0 0) := hW3 ▸ Boxed.new W2 _ _
  have hB3 : Below W2.heap.size W2 W3 := hW3 ▸ below_alloc _
  have hs3 : W3.heap.size = W2.heap.size + 1 := by rw [← hW3]; simp
  have con := Split_any q n c 38 t W3 h1 (by omega) (bytes_keep h5 (Keep.of_below hB3) (fun a h1 h2 => bytes_lt h5 a h1 h2))
  have hsm := Lib.hid (splitX_small 38 t n hl)
  have hlx := Lib.hid (show (splitX 38 t).length ≤ n + 1 by have := splitX_len 38 t; omega)
  have HW3 := Lib.hid hW3
  clear hW3 h1 h2 h3 h4 h5 hb0
  gi_wp2_with fail
  rw [HW3.out]
  refine ⟨trivial, (callsIn_wide.2 con).mono ?_⟩
  rintro e W4 ⟨B, v', rfl, hB, hBc, hrow, hBl, hbel⟩
  have hit := Split_iter (by omega) hB hBc hrow
  obtain ⟨RB, hRB⟩ : ∃ RB : Nat → Prop, RB = fun b => b = B ∨ b = W3.heap.size ∨ v'.ownBlock = some b := ⟨_, rfl⟩
  have hRl : ∀ b, RB b → W2.heap.size + 1 ≤ b ∧ b < W4.heap.size := fun b hb => by
    rw [hRB] at hb
    rcases hb with rfl | rfl | hb
    · exact ⟨by omega, hB.lt⟩
    · exact ⟨by omega, hBc.lt⟩
    · have := hrow.lt b hb; exact ⟨by omega, this.2⟩
  rw [← hRB, hs3] at hit
  have hB4 : Below W2.heap.size W2 W4 := hB3.trans (hbel.mono (by omega))
  replace b0 := (Keep.of_below hbel).boxed b0 (by omega)
  replace bR := (Keep.of_below hB4).boxed bR bR.lt
  replace bE := (Keep.of_below hB4).boxed bE bE.lt
  have A4 := A2.trans (hB4.mono A2.size)
  have hs4 := hbel.size
  have hsA := A2.size
  have hs12 : w.heap.size + 2 ≤ W2.heap.size := by omega
  clear con hB hBc hrow hBl hbel HW3 hRB hB3 hB4
  generalize splitX 38 t = xs at *
  gi_wp2
  refine rf_law (gf := 67) (lb := #[.pointer (some ⟨B, 0, none⟩), .pointer (some ⟨W2.heap.size + 1, 0, none⟩)]) rfl (enters_of Tryz.func67 (by kernel_rfl) rfl)
    hit (Keep.refl _ _) (fun b hb => (hRl b hb).2) (fun x args G W h => by obtain ⟨v, rfl, _⟩ := h; rfl)
    (PfI W2.heap.size (fun b => b < W2.heap.size) W4) (fun cc pre Pv W => PfX w xs W4 cc pre Pv W ∧ W4.heap.size ≤ W.heap.size) (PfI_abide _ _ _ (by omega) (fun b hb => by omega)) (PfX_abide w xs W4 (by omega) trivial)
    ⟨_, [], b0, World.ownsRow_nil _ _ _ _, (fun z hz => by cases hz), rfl, (fun _ h => h.elim), (fun _ h => by cases h), Keep.refl _ _, rfl⟩ ?round ?done ?stop
  case round =>
    rintro ll pre ⟨xi, x⟩ rest Pv G args Wr hll hxs ⟨v, ls, hbx, hrow, hzs, hcl, hge, hnv, hKW, hll2⟩ hPl hGl hPb hGP ⟨p, rfl, hp, rfl⟩
    have hxl := hsm.out (xi, x) (by rw [hxs]; simp)
    have hpl : pre.length + 1 ≤ n + 1 := by
      have h1 := hlx.out
      rw [hxs, List.length_append, List.length_cons] at h1
      omega
    simp only at hxl hp
    obtain ⟨qx, cx, rfl, _, hnc, hcm, hbs, hblk⟩ := row_open hp
    have hbyx : By Wr (.slice qx x.length cx) x := By.row hp
    have hxm := Lib.hid hxs
    clear hxs
    gi_wp2
    refine ⟨Keep.refl _ _, fun W5 hk5 hs5 r hr => ?_⟩
    have hnP : ∀ b, b < W4.heap.size → ¬ Pv b := fun b hb h => by have := hge b h; omega
    have hk5' : Keep (fun b => ¬ Pv b) Wr W5 := hk5.mono fun b _ hb h => hb (h ▸ hPl)
    replace hbx := hk5'.boxed hbx (hnP _ (by omega))
    replace hrow := hk5'.row hrow hnv
    replace hzs : ∀ z ∈ ls, ClAt W5 z ∧ ∀ a, z.1.1 = some a → 0 < z.1.2.1 → ¬ Pv a.block ∧ W4.heap.size ≤ a.block ∧ v.ownBlock ≠ some a.block := fun z hz => ⟨(hzs z hz).1.from hk5' (fun a ha h0 => ((hzs z hz).2 a ha h0).1), (hzs z hz).2⟩
    have hK5 : Keep (fun b => b < W2.heap.size) W4 W5 := hKW.trans (hk5'.mono fun b _ hb => hnP b (by omega))
    have hPl5 : ∀ b, Pv b → b < W5.heap.size := fun b hb => by rw [hs5]; exact hPb b hb
    have gx : Keep (fun b => (Value.slice qx x.length cx).ownBlock = some b) Wr W5 := hk5.mono fun b _ hb h => hGl (h ▸ hb)
    have hbs5 : Lib.BytesIn W5 qx x.length (Lib.numsL x) := bytes_keep hbs gx (fun a ha _ => (hblk a ha).2.2)
    have hby5 : By W5 (.slice qx x.length cx) x := by
      obtain ⟨g1, g2, g3, g4, _⟩ := hbyx.at
      exact By.of g1 g2 g3 (fun h => (g4 h).2) hbs5
    have hszW := hK5.size
    have A5 : Below w.heap.size w W5 := A4.trans ((hK5.mono fun b _ h => by omega).below (by omega))
    have con := Cls.Parse_new qx x.length cx x W5 hby5 (.inl (by omega)) (HG.out.on A5)
    clear hr hk5 hk5' hs5 hKW hbs hp hbyx hblk gx hbs5 hby5
    have bR5 := hK5.boxed bR (by omega)
    have bE5 := hK5.boxed bE (by omega)
    cases hpc : parseC x with
    | inl en =>
      rw [hpc] at con
      have hne : en ≠ 0 := by rcases parseC_no x en hpc with h | h <;> omega
      have d2 : ((en : Int) != 0) = true := by unfold bne; rw [beq_eq_false_iff_ne.2 hne]; rfl
      have d3 : ((en : Int) == 0) = false := beq_eq_false_iff_ne.2 hne
      have HE := Lib.hid (show clausesL (xs.map Prod.snd) = .inl en by
        rw [hxm.out, List.map_append, List.map_cons]
        exact clauses_err x en hpc _ _ _ hcl)
      clear hne hpc hcl hzs hrow hbx hit
      gi_wp2_with fail
      refine ⟨trivial, rfl, (CallsIn.inRound ll (callsIn_wide.2 con)).mono ?_⟩
      rintro e w6 ⟨q6, n6, c6, rfl, hs6, hq6, hb6⟩
      have kb := Keep.of_below hb6
      have bR6 := (kb.boxed bR5 bR5.lt).alloc (.cells #[.slice q6 n6 c6] 84)
      have bE6 := (kb.boxed bE5 bE5.lt).alloc (.cells #[.slice q6 n6 c6] 84)
      have kf := bR6.frozen
      have kc := bR6.cell
      have b3 := bR6.set (.slice none 0 0)
      have e3 := (Keep.setCell (S := fun b => b = w.heap.size + 1) (w6.alloc (.cells #[.slice q6 n6 c6] 84)) ⟨w.heap.size, 0, none⟩ (.slice none 0 0) (by simp)).boxed bE6 rfl
      have ef3 := e3.frozen
      have ec3 := e3.cell
      have b4 := (Keep.setCell (S := fun b => b = w.heap.size) ((w6.alloc (.cells #[.slice q6 n6 c6] 84)).setCell ⟨w.heap.size, 0, none⟩ (.slice none 0 0)) ⟨w.heap.size + 1, 0, none⟩ (.int .i64 en) (by simp)).boxed b3 rfl
      have e4 := e3.set (.int .i64 en)
      clear con hs6
      unfold errC
      gi_wp2
      have kq : ∀ (S : Nat → Prop), (∀ b, S b → b < W5.heap.size) → ¬ S w.heap.size → ¬ S (w.heap.size + 1) → Keep S W5 (((w6.alloc (.cells #[.slice q6 n6 c6] 84)).setCell ⟨w.heap.size, 0, none⟩ (.slice none 0 0)).setCell ⟨w.heap.size + 1, 0, none⟩ (.int .i64 en)) := fun S h0 h1 h2 =>
        (((kb.mono fun b _ hb => h0 b hb).trans (Keep.alloc S _ _)).trans (Keep.setCell _ _ _ h1)).trans (Keep.setCell _ _ _ h2)
      have hA6 := (((A5.trans (hb6.mono A5.size)).alloc (by have := (A5.trans (hb6.mono A5.size)).size; exact this) (.cells #[.slice q6 n6 c6] 84)).setCell (p := ⟨w.heap.size, 0, none⟩) (by simp) (.slice none 0 0)).setCell (p := ⟨w.heap.size + 1, 0, none⟩) (by simp) (.int .i64 en)
      have hz6 : W4.heap.size ≤ (((w6.alloc (.cells #[.slice q6 n6 c6] 84)).setCell ⟨w.heap.size, 0, none⟩ (.slice none 0 0)).setCell ⟨w.heap.size + 1, 0, none⟩ (.int .i64 en)).heap.size := Nat.le_trans hszW (kq (fun _ => False) (fun _ h => h.elim) id id).size
      refine ⟨kq _ (fun b hb => ?_) (fun h => ?_) (fun h => ?_), ⟨rfl, en, b4, e4, HE.out, hA6, fun b hb => hge b hb.1⟩, hz6⟩
      · rcases hb with h | h
        · have := (hRl b h).2; omega
        · exact hPl5 b h.1
      · rcases h with h | h
        · have := (hRl _ h).1; omega
        · have := hge _ h.1; omega
      · rcases h with h | h
        · have := (hRl _ h).1; omega
        · have := hge _ h.1; omega
    | inr cv =>
      rw [hpc] at con
      have hcf := (parseC_ok x cv hpc).few
      have HLL := Lib.hid hll2
      have hll3 : ls.length ≤ n := by omega
      have HE := Lib.hid (show clausesL ((pre ++ [(xi, x)]).map Prod.snd) = .inr (ls.map Prod.snd ++ [cv]) by
        rw [List.map_append]
        exact clauses_snoc x cv hpc _ _ hcl)
      clear hpc hcl hit hll2
      gi_wp2_with fail
      refine ⟨trivial, rfl, (CallsIn.inRound ll (callsIn_wide.2 con)).mono ?_⟩
      rintro e w6 ⟨q6, n6, c6, rfl, hs6, hq6, hb6⟩
      have kb := Keep.of_below hb6
      have hsz6 := hb6.size
      have hbx7 := (kb.boxed hbx hbx.lt).alloc (.cells #[.slice q6 n6 c6] 84)
      have hrow7 := (kb.row hrow (fun b hb => (hrow.lt b hb).2)).alloc (.cells #[.slice q6 n6 c6] 84)
      have cB := hbx7.cell
      have cC := (Boxed.new w6 84 (.slice q6 n6 c6)).cell
      have hz1' : (w6.alloc (.cells #[.slice q6 n6 c6] 84)).heap.size = w6.heap.size + 1 := by simp
      clear con
      unfold errC
      gi_wp2_with (gi_at_builtin; go_must (refine wpListIn_append_own_at _ rfl _ _ 24 rfl W4.heap.size 84 i0 (.agg #[.slice none 0 0]) 1 24 Tryz.underlying24 hi0 hz0 hz1 hz2 rfl (by decide) _ _ _ rfl (hrow7.alloc _) ⟨w6.heap.size + 1, 0, none⟩ 1 1 [.slice q6 n6 c6] rfl rfl (by rw [← hz1']; exact cell_one_new _ _ _) (by simp [Value.oneCell']) (by unfold maxLen; omega) (by omega) (by simp; omega) ?_); intro v' w1 hown' hgrow _ hat; obtain ⟨g', cap', rfl⟩ := ownsRow_succ hown'; obtain ⟨hv1, hv2, hr2, hkk⟩ := appended_keep (S := fun b => b ≠ W2.heap.size ∧ v.ownBlock ≠ some b) hbx7 (by decide) hrow7 (fun h => h.1 rfl) (fun b hb h => h.2 hb) hown' hgrow; have hc1 := hv1.cell; have hf1 := hv1.frozen)
      have hat' : some g' = v.ownBlock ∨ some g' = some ((w6.alloc (.cells #[.slice q6 n6 c6] 84)).alloc (.cells #[.slice q6 n6 c6] 84)).heap.size := hat
      have hg : ∀ b, some g' = some b → v.ownBlock = some b ∨ w6.heap.size + 2 ≤ b := fun b hb => by
        rcases hat' with h | h
        · exact .inl (h ▸ hb)
        · rw [hb] at h
          have := Option.some.inj h
          simp at this
          exact .inr (by omega)
      have hk6 : ∀ S : Nat → Prop, (∀ b, S b → b < w6.heap.size ∧ b ≠ W2.heap.size ∧ v.ownBlock ≠ some b) → Keep S w6 (w1.setCell ⟨W2.heap.size, 0, none⟩ (.slice (some ⟨g', 0, none⟩) (ls.length + 1) cap')) := fun S hS => (Keep.alloc S _ _).trans (hkk.mono fun b _ h => (hS b h).2)
      have hk5 : ∀ S : Nat → Prop, (∀ b, S b → b < W5.heap.size ∧ b ≠ W2.heap.size ∧ v.ownBlock ≠ some b) → Keep S W5 (w1.setCell ⟨W2.heap.size, 0, none⟩ (.slice (some ⟨g', 0, none⟩) (ls.length + 1) cap')) := fun S hS => (kb.mono fun b _ h => (hS b h).1).trans (hk6 S fun b h => ⟨by have := (hS b h).1; omega, (hS b h).2⟩)
      have hown5 : ∀ b, v.ownBlock = some b → W4.heap.size ≤ b ∧ b < W5.heap.size := fun b hb => hrow.lt b hb
      have hz6 : ClAt w6 ((q6, n6, c6), cv) := ⟨hs6, hcf⟩
      refine ⟨hk5 _ (fun b hb => ?_), _, ls ++ [((q6, n6, c6), cv)], hv2, by simpa [encC] using hr2, fun z hz => ?_, by rw [HE.out, List.map_append]; rfl, fun b hb => hge b hb.1, fun b hb hp => ?_, hK5.trans (hk5 _ (fun b hb => ?_)), by rw [List.length_append, List.length_append, HLL.out]; rfl⟩
      · rcases hb with h | h
        · have h2 := hRl b h
          exact ⟨by omega, by omega, fun e => by have := (hown5 b e).1; omega⟩
        · exact ⟨hPl5 b h.1, fun e => hnP b (by omega) h.1, fun e => hnv b e h.1⟩
      · rcases List.mem_append.1 hz with h | h
        · obtain ⟨k1, k2⟩ := hzs z h
          refine ⟨k1.from (hk5 (fun b => b < W5.heap.size ∧ b ≠ W2.heap.size ∧ v.ownBlock ≠ some b) (fun b hb => hb)) (fun a ha h0 => ?_), fun a ha h0 => ?_⟩
          · obtain ⟨j1, j2, j3⟩ := k2 a ha h0
            exact ⟨k1.lt a ha h0, by omega, j3⟩
          · obtain ⟨j1, j2, j3⟩ := k2 a ha h0
            refine ⟨fun hp => j1 hp.1, j2, fun e => ?_⟩
            rcases hg a.block e with h | h
            · exact j3 h
            · have := k1.lt a ha h0; omega
        · rw [List.mem_singleton.1 h]
          refine ⟨hz6.from (hk6 (fun b => b < w6.heap.size ∧ b ≠ W2.heap.size ∧ v.ownBlock ≠ some b) (fun b hb => hb)) (fun a ha h0 => ?_), fun a ha h0 => ?_⟩
          · have j := hq6 a ha
            exact ⟨hz6.lt a ha h0, by omega, fun e => by have := (hown5 _ e).2; omega⟩
          · have j := hq6 a ha
            refine ⟨fun hp => by have := hPl5 _ hp.1; omega, by omega, fun e => ?_⟩
            rcases hg a.block e with h | h
            · have := (hown5 _ h).2; omega
            · have := hz6.lt a ha h0; omega
      · rcases hg b hb with h | h
        · exact hnv b h hp.1
        · have := hPl5 b hp.1; omega
      · exact ⟨by omega, by omega, fun e => by have := (hown5 b e).1; omega⟩
  case done =>
    rintro D Pv Wd hD hPD hPl ⟨v, ls, hbx, hrow, hzs, hcl, hge, hnv, hKW, hll2⟩ hK
    obtain ⟨q5, c5, rfl, hc5, _, hs5, _⟩ := slIn_of_owns hrow
    have hA : Keep (fun b => b < W2.heap.size) W4 Wd := hKW
    have bRd := hA.boxed bR (by omega)
    have bEd := hA.boxed bE (by omega)
    have hBd : Below w.heap.size w Wd := A4.trans ((hA.mono fun b _ h => by omega).below A4.size)
    have HR := Lib.hid (HP2.out HN.out _ hcl)
    have con := Of_any q5 ls.length c5 (ls.map Prod.snd) Wd ⟨ls, hs5, fun z hz => (hzs z hz).1, rfl⟩ (fun h => by subst h; exact (Cls.row_nil hrow).2) (by have := hlx.out; omega)
    rw [← HR.out] at con
    have cB := hbx.cell
    have hDl := hPl D hPD
    clear hs5 hrow hbx hnv hge hKW hA hit hzs hcl b0 hll2
    gi_wp2_with fail
    refine ⟨trivial, (callsIn_wide.2 con).mono ?_⟩
    rintro e w6 ⟨q6, n6, c6, rfl, hs6, hq6, hb6⟩
    have hD6 : w6.heap[D]? = some (.deferred (some [])) := (hb6.block D hDl).trans hK
    have hsd := hBd.size
    have hDg : w.heap.size + 2 ≤ D := by omega
    have hqn : ∀ a, q6 = some a → w.heap.size ≤ a.block := fun a ha => Nat.le_trans hsd (hq6 a ha)
    replace hq6 : ∀ a, q6 = some a → a.block ≠ w.heap.size ∧ a.block ≠ w.heap.size + 1 := fun a ha => by have := hq6 a ha; have := bEd.lt; omega
    have bR6 := (Keep.of_below hb6).boxed bRd bRd.lt
    have bE6 := (Keep.of_below hb6).boxed bEd bEd.lt
    have A6 := hBd.trans (hb6.mono hBd.size)
    have kf := bR6.frozen
    have kc := bR6.cell
    have b3 := bR6.set (.slice q6 n6 c6)
    have f3 := hs6.set (u' := .slice q6 n6 c6) bR6 (fun x h => by cases h) (fun a ha => (hq6 a ha).1)
    have e3 := (Keep.setCell (S := fun b => b = w.heap.size + 1) w6 ⟨w.heap.size, 0, none⟩ (.slice q6 n6 c6) (by simp)).boxed bE6 rfl
    have ef3 := e3.frozen
    have ec3 := e3.cell
    have hD7 := (Keep.setCell (S := fun b => b = D) w6 ⟨w.heap.size, 0, none⟩ (.slice q6 n6 c6) (by simp; omega)).heap rfl hD6
    have A7 := A6.setCell (p := ⟨w.heap.size, 0, none⟩) (by simp) (.slice q6 n6 c6)
    clear con hb6
    obtain ⟨r, hr⟩ : ∃ r, parseF t = r := ⟨_, rfl⟩
    rw [hr] at hs6 f3 ⊢
    gi_wp2
    subst hr
    have b4 := (Keep.setCell (S := fun b => b = w.heap.size) (w6.setCell ⟨w.heap.size, 0, none⟩ (.slice q6 n6 c6)) ⟨w.heap.size + 1, 0, none⟩ (.int .i64 (frmE (parseF t))) (by simp)).boxed b3 rfl
    have e4 := e3.set (.int .i64 (frmE (parseF t)))
    have f4 := f3.set (u' := .int .i64 (frmE (parseF t))) e3 (fun x h => by cases h) (fun a ha => (hq6 a ha).2)
    have hD8 := (Keep.setCell (S := fun b => b = D) (w6.setCell ⟨w.heap.size, 0, none⟩ (.slice q6 n6 c6)) ⟨w.heap.size + 1, 0, none⟩ (.int .i64 (frmE (parseF t))) (by simp; omega)).heap rfl hD7
    have A8 := A7.setCell (p := ⟨w.heap.size + 1, 0, none⟩) (by simp) (.int .i64 (frmE (parseF t)))
    refine ⟨by simp, .inl ⟨_, _, rfl, run_takeDeferred hD8, ?_⟩⟩
    have hkP : ∀ S : Nat → Prop, ¬ S D → Keep S ((w6.setCell ⟨w.heap.size, 0, none⟩ (.slice q6 n6 c6)).setCell ⟨w.heap.size + 1, 0, none⟩ (.int .i64 (frmE (parseF t)))) (((w6.setCell ⟨w.heap.size, 0, none⟩ (.slice q6 n6 c6)).setCell ⟨w.heap.size + 1, 0, none⟩ (.int .i64 (frmE (parseF t)))).putObj D (.deferred none)) := fun S hS => Keep.putObj _ D (.deferred none) hS
    refine ⟨_, ret_frm22 rfl _ _ w.heap.size (w.heap.size + 1) _ _ rfl rfl ((hkP (fun b => b = w.heap.size) (by omega)).boxed b4 rfl) ((hkP (fun b => b = w.heap.size + 1) (by omega)).boxed e4 rfl).cell, q6, n6, c6, rfl, f4.put hD8, hqn, ?_⟩
    · exact ((Keep.of_below A8).trans (hkP _ (by omega))).below (Nat.le_refl _)
  case stop =>
    rintro D cc pre rest Pv Wd hD hPD hPl hxs ⟨⟨rfl, en, hR, hE, hcl, hBd, hge⟩, hsz⟩ hK
    clear hxs
    have HR := Lib.hid (HP3.out HN.out _ hcl)
    have hDg : w.heap.size + 2 ≤ D := by have := A4.size; omega
    gi_wp2
    refine ⟨by simp, .inl ⟨_, _, rfl, run_takeDeferred hK, ?_⟩⟩
    have hkP : ∀ S : Nat → Prop, ¬ S D → Keep S Wd (Wd.putObj D (.deferred none)) := fun S hS => Keep.putObj _ D (.deferred none) hS
    refine ⟨_, ret_frm22 rfl _ _ w.heap.size (w.heap.size + 1) _ _ rfl rfl ((hkP (fun b => b = w.heap.size) (by omega)).boxed hR rfl) ((hkP (fun b => b = w.heap.size + 1) (by omega)).boxed hE rfl).cell, ?_⟩
    rw [HR.out]
    exact ⟨none, 0, 0, rfl, frm_nil _, (fun a h => by cases h), ((Keep.of_below hBd).trans (hkP _ (by omega))).below (Nat.le_refl _)⟩
end Go.Proofs.YtpabhppghljipaaGreatDoor.Frm

namespace Go.Proofs.YtpabhppghljipaaGreatDoor.Frm
open Go.RowKit Go.Shelf Go.Sort Url Org Cls
attribute [local go_sem] Oper.semAt_some
set_option linter.unusedVariables false

end Go.Proofs.YtpabhppghljipaaGreatDoor.Frm

namespace Go.Proofs.YtpabhppghljipaaGreatDoor.Frm
open Go.RowKit Go.Shelf Go.Sort Url Org Cls
attribute [local go_sem] Oper.semAt_some
set_option linter.unusedVariables false

/-- The formula of one principal. -/
def singleR (p : List UInt8) : Sum Int (List (List (List UInt8))) := match ofC [p] with
  | .inl e => .inl e
  | .inr c => ofF [c]
theorem ofC_no (l : List (List UInt8)) (n : Int) (h : ofC l = .inl n) : n = 2 ∨ n = 3 := by
  unfold ofC at h
  split at h
  · split at h
    · cases h
    · cases h; exact .inr rfl
  · cases h; exact .inl rfl


set_option maxRecDepth 100000 in
set_option maxHeartbeats 8000000 in
theorem Single_any (p : List UInt8) (w : World) (hl : p.length ≤ 1300) (hG : Gl w) :
    Calls Tryz.prog 48 #[.string ⟨p.toArray⟩] w (FrmOut (singleR p) w) := by
  obtain ⟨W1, hW1⟩ : ∃ W1, (w.alloc (.cells #[.slice none 0 0] 26)).alloc (.cells #[.string ⟨p.toArray⟩] 9) = W1 := ⟨_, rfl⟩
  have A1 : Below w.heap.size w W1 := hW1 ▸ ((Below.refl _ w).alloc (Nat.le_refl _) _).alloc (by simp) _
  have b1 : Boxed W1 w.heap.size 26 (.slice none 0 0) := hW1 ▸ (Boxed.new w _ _).alloc _
  have bp : Boxed W1 (w.heap.size + 1) 9 (.string ⟨p.toArray⟩) := by
    have := Boxed.new (w.alloc (.cells #[.slice none 0 0] 26)) 9 (.string ⟨p.toArray⟩)
    rw [World.size_alloc] at this
    exact hW1 ▸ this
  have hsl : SlIn encStr W1 (some ⟨w.heap.size + 1, 0, none⟩) 1 [p] := ⟨rfl, fun _ => ⟨_, _, rfl, bp.lt, fun i x hx => by
    cases i with
    | zero => cases hx; exact bp.cell
    | succ i => simp at hx⟩⟩
  have con := Cls.Of_new (some ⟨w.heap.size + 1, 0, none⟩) 1 1 [p] W1 hsl (fun h => by cases h) (by decide) (fun t ht => by rw [List.mem_singleton.1 ht]; exact hl) (hG.on A1)
  have HW1 := Lib.hid hW1
  clear hW1 hsl bp hG hl
  go_enter Tryz.func48, Tryz.ntmps48
  go_wp2_with fail
  rw [HW1.out]
  refine con.mono ?_
  rintro e w2 ⟨q2, n2, c2, rfl, hs2, hq2, hb2⟩
  have kb := Keep.of_below hb2
  have A2 := A1.trans (hb2.mono A1.size)
  have b2 := (kb.boxed b1 b1.lt).alloc (.cells #[.slice q2 n2 c2] 84)
  have kf := b2.frozen
  have kc := b2.cell
  have hsA := A1.size
  have hlt1 := b1.lt
  have hs12 := hb2.size
  clear con
  cases hc : ofC [p] with
  | inl en =>
    have hne : en ≠ 0 := by rcases ofC_no _ en hc with h | h <;> omega
    have d2 : ((en : Int) != 0) = true := by unfold bne; rw [beq_eq_false_iff_ne.2 hne]; rfl
    have HR := Lib.hid (show singleR p = .inl en by unfold singleR; rw [hc])
    have A3 := (A2.alloc A2.size (.cells #[.slice q2 n2 c2] 84)).setCell (p := ⟨w.heap.size, 0, none⟩) (by simp) (.slice none 0 0)
    clear hne hc hs2
    unfold errC
    go_wp2
    refine bodyPost_ret (ret_frm2 rfl _ _ w.heap.size _ rfl (b2.set _)) rfl ?_
    rw [HR.out]
    exact ⟨none, 0, 0, rfl, frm_nil _, (fun a h => by cases h), A3⟩
  | inr cv =>
    rw [hc] at hs2
    replace hs2 : SetIs encStr w2 (.agg #[.slice q2 n2 c2]) cv := hs2
    have hfew := (of_ok _ cv hc).1.few
    have HR := Lib.hid (show singleR p = ofF [cv] by unfold singleR; rw [hc])
    obtain ⟨W3, hW3⟩ : ∃ W3, (w2.alloc (.cells #[.slice q2 n2 c2] 84)).alloc (.cells #[.slice q2 n2 c2] 84) = W3 := ⟨_, rfl⟩
    have hk3 : Below w2.heap.size w2 W3 := hW3 ▸ ((Below.refl _ w2).alloc (Nat.le_refl _) _).alloc (by simp) _
    have b3 : Boxed W3 w.heap.size 26 (.slice none 0 0) := hW3 ▸ b2.alloc _
    have bc : Boxed W3 (w2.heap.size + 1) 84 (.slice q2 n2 c2) := by
      have := Boxed.new (w2.alloc (.cells #[.slice q2 n2 c2] 84)) 84 (.slice q2 n2 c2)
      rw [World.size_alloc] at this
      exact hW3 ▸ this
    have A3 := A2.trans (hk3.mono A2.size)
    have hcl : ClsIn W3 (some ⟨w2.heap.size + 1, 0, none⟩) 1 [cv] := ⟨[((q2, n2, c2), cv)], ⟨rfl, fun _ => ⟨_, _, rfl, bc.lt, fun i x hx => by
      cases i with
      | zero => cases hx; exact bc.cell
      | succ i => simp at hx⟩⟩, fun z hz => by rw [List.mem_singleton.1 hz]; exact (⟨hs2, hfew⟩ : ClAt w2 ((q2, n2, c2), cv)).below hk3, rfl⟩
    have con2 := Of_any (some ⟨w2.heap.size + 1, 0, none⟩) 1 1 [cv] W3 hcl (fun h => by cases h) (by decide)
    have HW3 := Lib.hid hW3
    rw [← HR.out] at con2
    clear hc hs2 hW3 hcl bc kf kc b2
    unfold errC
    go_wp2_with fail
    rw [HW3.out]
    refine con2.mono ?_
    rintro e w4 ⟨q4, n4, c4, rfl, hs4, hq4, hb4⟩
    have b4 := (Keep.of_below hb4).boxed b3 b3.lt
    have A4 := A3.trans (hb4.mono A3.size)
    have kf := b4.frozen
    have kc := b4.cell
    have hb3l := b3.lt
    clear con2
    go_wp2
    refine bodyPost_ret (ret_frm2 rfl _ _ w.heap.size _ rfl (b4.set _)) rfl ?_
    exact ⟨q4, n4, c4, rfl, hs4.set b4 (fun x h => by cases h) (fun a ha => by have := hq4 a ha; omega), (fun a ha => Nat.le_trans A3.size (hq4 a ha)), A4.setCell (by simp) _⟩

end Go.Proofs.YtpabhppghljipaaGreatDoor.Frm

namespace Go.Proofs.YtpabhppghljipaaGreatDoor.Frm
open Go.RowKit Go.Shelf Go.Sort Url Org Cls
attribute [local go_sem] Oper.semAt_some
set_option linter.unusedVariables false

end Go.Proofs.YtpabhppghljipaaGreatDoor.Frm

namespace Go.Proofs.YtpabhppghljipaaGreatDoor.Frm
open Go.RowKit Go.Shelf Go.Sort Url Org Cls
attribute [local go_sem] Oper.semAt_some
set_option linter.unusedVariables false

/-- The clauses that have come lie in the box's row; Pv: what others hold. -/
def OrL (Bo : Nat) (RB : Nat → Prop) (W0 : World) (Pv : Nat → Prop) (W : World) (acc : List (List (List UInt8))) : Prop :=
  ∃ v, ∃ ls : List Cl, Boxed W Bo 24 v ∧ W.ownsRow W0.heap.size 84 1 v ls.length (ls.map encC) ∧ (∀ z ∈ ls, ClAt W z ∧ ∀ a, z.1.1 = some a → 0 < z.1.2.1 → ¬ Pv a.block ∧ W0.heap.size ≤ a.block ∧ v.ownBlock ≠ some a.block) ∧ ls.map Prod.snd = acc ∧
    (∀ b, Pv b → W0.heap.size ≤ b) ∧ (∀ b, v.ownBlock = some b → ¬ Pv b) ∧ Keep RB W0 W
theorem OrL.step {Bo : Nat} {RB Pv Pv' : Nat → Prop} {W0 A B : World} {acc : List (List (List UInt8))} (h : OrL Bo RB W0 Pv A acc) (hBo : Bo < W0.heap.size) (hRB : ∀ b, RB b → b < W0.heap.size) (hk : Keep (fun b => ¬ Pv b) A B) (hp : ∀ b, Pv' b → (Pv b ∨ A.heap.size ≤ b)) : OrL Bo RB W0 Pv' B acc := by
  obtain ⟨v, ls, h1, h2, hz, hc, h3, h5, h6⟩ := h
  have hs := h6.size
  refine ⟨v, ls, hk.boxed h1 (fun h => by have := h3 _ h; omega), hk.row h2 h5, fun z hz' => ⟨(hz z hz').1.from hk (fun a ha h0 => ((hz z hz').2 a ha h0).1), fun a ha h0 => ⟨fun hp' => ?_, ((hz z hz').2 a ha h0).2⟩⟩, hc, fun b hb => ?_, fun b hb hp' => ?_, h6.trans (hk.mono fun b _ hb hpb => by have := h3 b hpb; have := hRB b hb; omega)⟩
  · rcases hp _ hp' with h | h
    · exact ((hz z hz').2 a ha h0).1 h
    · have := (hz z hz').1.lt a ha h0; omega
  · rcases hp b hb with h | h
    · exact h3 b h
    · omega
  · rcases hp _ hp' with h | h
    · exact h5 b hb h
    · have := (h2.lt b hb).2; omega
/-- Where a clause's error has left the loops. -/
def OrX (w : World) (ok : Prop) (W0 : World) (c : Code) (Pv : Nat → Prop) (W : World) : Prop :=
  c = .ret ∧ Boxed W (w.heap.size + 2) 26 (.slice none 0 0) ∧ Boxed W (w.heap.size + 3) 42 (.int .i64 3) ∧ ok ∧ Below w.heap.size w W ∧ (∀ b, Pv b → W0.heap.size ≤ b) ∧ W0.heap.size ≤ W.heap.size
theorem OrX.step {w W0 A B : World} {ok : Prop} {c : Code} {Pv Pv' : Nat → Prop} (h : OrX w ok W0 c Pv A) (h0 : w.heap.size + 4 ≤ W0.heap.size) (hk : Keep (fun b => ¬ Pv b) A B) (hp : ∀ b, Pv' b → (Pv b ∨ A.heap.size ≤ b)) : OrX w ok W0 c Pv' B := by
  obtain ⟨hc, h1, h2, h3, h4, h5, h6⟩ := h
  have hs := hk.size
  refine ⟨hc, hk.boxed h1 (fun h => by have := h5 _ h; omega), hk.boxed h2 (fun h => by have := h5 _ h; omega), h3, h4.trans ((hk.mono fun b _ hb hpb => by have := h5 b hpb; omega).below h4.size), fun b hb => ?_, by omega⟩
  rcases hp b hb with h | h
  · exact h5 b h
  · omega

end Go.Proofs.YtpabhppghljipaaGreatDoor.Frm

namespace Go.Proofs.YtpabhppghljipaaGreatDoor.Frm
open Go.RowKit Go.Shelf Go.Sort Url Org Cls
attribute [local go_sem] Oper.semAt_some
set_option linter.unusedVariables false

/-- Those clauses that none of the others implies. -/
def lessZ (g : List (List (List UInt8))) (zs : List Cl) : List Cl := zs.filter fun z => !oneB g z.2
theorem lessZ_snoc (g : List (List (List UInt8))) (pre : List Cl) (z : Cl) : lessZ g (pre ++ [z]) = lessZ g pre ++ (if oneB g z.2 = true then [] else [z]) := by
  unfold lessZ
  rw [List.filter_append]
  congr 1
  cases h : oneB g z.2 <;> simp [h]
theorem lessZ_len (g : List (List (List UInt8))) (pre : List Cl) : (lessZ g pre).length ≤ pre.length := List.length_filter_le _ _
theorem less_of (g : List (List (List UInt8))) (zs : List Cl) : lessF (zs.map Prod.snd) g = (lessZ g zs).map Prod.snd := by
  unfold lessF lessZ
  rw [List.filter_map]
  congr 1
  apply List.filter_congr
  intro z _
  show (!impB g [z.2]) = !oneB g z.2
  rw [imp_all]; simp
theorem ret_frm {fn : Func} {p : Tmp} (h : fn.results = #[.cell p 26]) (tmps : Array Value) (w : World) (B : Nat) (v : Value) (hp : tmps.getD p undef = .pointer (some ⟨B, 0, none⟩)) (hU : Boxed w B 26 v) :
    (results fn tmps).run Tryz.prog w = .ok (.agg #[v]) w :=
  results_cell_row h tmps w B _ #[v] (0, 0) _ hp hU Tryz.underlying26 rfl (by kernel_rfl)

/-- Between two rounds: the clauses that are left lie in the box's row. -/
def LsI (Bo : Nat) (RB : Nat → Prop) (W0 : World) (g : List (List (List UInt8))) (pre : List Cl) (Pv : Nat → Prop) (W : World) : Prop :=
  ∃ v, Boxed W Bo 24 v ∧ W.ownsRow W0.heap.size 84 1 v (lessZ g pre).length ((lessZ g pre).map encC) ∧ (∀ b, Pv b → W0.heap.size ≤ b) ∧ (∀ b, v.ownBlock = some b → ¬ Pv b) ∧ Keep RB W0 W
theorem LsI_abide (Bo : Nat) (RB : Nat → Prop) (W0 : World) (g : List (List (List UInt8))) (hBo : Bo < W0.heap.size) (hRB : ∀ b, RB b → b < W0.heap.size) : Abide (LsI Bo RB W0 g) := by
  rintro pre Pv Pv' A B ⟨v, h1, h2, h3, h5, h6⟩ hk hp
  have hs := h6.size
  refine ⟨v, hk.boxed h1 (fun h => by have := h3 _ h; omega), hk.row h2 h5, fun b hb => ?_, fun b hb hp' => ?_, h6.trans (hk.mono fun b _ hb hpb => by have := h3 b hpb; have := hRB b hb; omega)⟩
  · rcases (hp b hb).1 with h | h
    · exact h3 b h
    · omega
  · rcases (hp _ hp').1 with h | h
    · exact h5 b hb h
    · have := (h2.lt b hb).2; omega

set_option maxRecDepth 100000 in
set_option maxHeartbeats 16000000 in
theorem Less_any (v1 v2 : Value) (f g : List (List (List UInt8))) (w : World) (h1 : FrmIs w v1 f) (h2 : FrmIs w v2 g) (lf : f.length ≤ 1099511627776) (lg : g.length ≤ 1099511627776) :
    Calls Tryz.prog 40 #[v1, v2] w fun e w' => ∃ q n c, e = .returned (.agg #[.slice q n c]) ∧ FrmIs w' (.agg #[.slice q n c]) (lessF f g) ∧ (∀ a, q = some a → w.heap.size ≤ a.block) ∧ Below w.heap.size w w' := by
  obtain ⟨i0, hi0, hz0, hz1, hz2⟩ := info_parts info_cls
  obtain ⟨q1, n1, c1, rfl⟩ := frm_form h1
  obtain ⟨q2, n2, c2, rfl⟩ := frm_form h2
  obtain ⟨_, _, zs, s1, z1, rfl⟩ := h1.row
  obtain ⟨_, _, r2⟩ := h2.row
  have e2 := r2.len
  rw [List.length_map] at lf
  obtain ⟨W1, hW1⟩ : ∃ W1, ((w.alloc (.cells #[.slice q1 n1 c1] 26)).alloc (.cells #[.slice q2 n2 c2] 26)).alloc (.cells #[.slice none 0 0] 26) = W1 := ⟨_, rfl⟩
  have b0 : Boxed W1 w.heap.size 26 (.slice q1 n1 c1) := hW1 ▸ ((Boxed.new w _ _).alloc _).alloc _
  have b1 : Boxed W1 (w.heap.size + 1) 26 (.slice q2 n2 c2) := by
    have := (Boxed.new (w.alloc (.cells #[.slice q1 n1 c1] 26)) 26 (.slice q2 n2 c2)).alloc (.cells #[.slice none 0 0] 26)
    rw [World.size_alloc] at this
    exact hW1 ▸ this
  have bR : Boxed W1 (w.heap.size + 2) 26 (.slice none 0 0) := by
    have := Boxed.new ((w.alloc (.cells #[.slice q1 n1 c1] 26)).alloc (.cells #[.slice q2 n2 c2] 26)) 26 (.slice none 0 0)
    rw [World.size_alloc, World.size_alloc] at this
    exact hW1 ▸ this
  have A1 : Below w.heap.size w W1 := hW1 ▸ (((Below.refl _ w).alloc (Nat.le_refl _) _).alloc (by simp) _).alloc (by simp; omega) _
  have hs1 : W1.heap.size = w.heap.size + 3 := by rw [← hW1]; simp
  obtain ⟨W2, hW2⟩ : ∃ W2, W1.alloc (.cells #[.slice none 0 0] 24) = W2 := ⟨_, rfl⟩
  have bL : Boxed W2 (w.heap.size + 3) 24 (.slice none 0 0) := by
    have := Boxed.new W1 24 (.slice none 0 0)
    rw [hs1] at this
    exact hW2 ▸ this
  have hB2 : Below W1.heap.size W1 W2 := hW2 ▸ below_alloc _
  have hs2 : W2.heap.size = w.heap.size + 4 := by rw [← hW2]; simp [hs1]
  have c0' := (b0.alloc (.cells #[.slice none 0 0] 24)).cell
  have con := frmAll_any q1 n1 c1 W2
  have HW1 := Lib.hid hW1
  have HW2 := Lib.hid hW2
  have A2 := A1.trans (hB2.mono A1.size)
  replace b1 := (Keep.of_below hB2).boxed b1 b1.lt
  replace bR := (Keep.of_below hB2).boxed bR bR.lt
  clear hW1 hW2 h1 h2 hB2
  refine (callsIn_wide (n := 1)).1 ?_
  refine callsIn_of_wp_marks Tryz.func40 rfl trivial ?_ rfl
  simp only [Tryz.ntmps40, List.size_toArray, List.length_cons, List.length_nil, Nat.reduceAdd, Nat.reduceSub, Array.replicate_succ, Array.replicate_zero, List.push_toArray, List.append_toArray, List.nil_append, List.cons_append]
  gi_wp2_with fail
  rw [HW1.out]
  gi_wp2_with fail
  rw [HW2.out]
  refine ⟨trivial, (callsIn_wide.2 con).mono ?_⟩
  rintro e W3 ⟨rfl, hW3⟩
  have bv : Boxed W3 (W2.heap.size + 1) 24 (.slice q1 n1 c1) := by
    have := Boxed.new (W2.alloc (.cells #[.slice q1 n1 c1] 26)) 24 (.slice q1 n1 c1)
    rw [World.size_alloc] at this
    exact hW3 ▸ this
  have hbel : Below W2.heap.size W2 W3 := hW3 ▸ ((Below.refl _ W2).alloc (Nat.le_refl _) _).alloc (by simp) _
  have hs3 : W3.heap.size = w.heap.size + 6 := by rw [hW3]; simp [hs2]
  replace b1 := (Keep.of_below hbel).boxed b1 b1.lt
  replace bR := (Keep.of_below hbel).boxed bR bR.lt
  replace bL := (Keep.of_below hbel).boxed bL bL.lt
  have A3 := A2.trans (hbel.mono A2.size)
  have hl1 := s1.1
  obtain ⟨RB, hRB⟩ : ∃ RB : Nat → Prop, RB = fun b => b < w.heap.size + 6 ∧ b ≠ w.heap.size + 3 := ⟨_, rfl⟩
  have rb := Lib.hid (show ∀ b, RB b ↔ b < w.heap.size + 6 ∧ b ≠ w.heap.size + 3 from fun b => by rw [hRB])
  have rbl : ∀ b, RB b → b < W3.heap.size := fun b hb => by have := (rb.out b).1 hb; omega
  have hit := Values1_iter (W2.heap.size + 1) q1 n1 c1 zs RB W3 (by omega) (s1.below A3 s1.lt) (fun a h h' => (rb.out _).2 (by have := s1.lt a h h'; omega)) bv ((rb.out _).2 (by omega)) rbl
  rw [hs2] at hit
  have hbo : w.heap.size + 3 < W3.heap.size := by omega
  clear con bv hW3 hbel HW1 HW2 hRB c0'
  gi_wp2
  refine rf_law (gf := 75) (lb := #[.pointer (some ⟨w.heap.size + 4 + 1, 0, none⟩)]) rfl (enters_of Tryz.func75 (by kernel_rfl) rfl)
    hit (Keep.refl _ _) rbl (fun x args G W h => by rw [h.1]; rfl)
    (LsI (w.heap.size + 3) RB W3 g) (fun _ _ _ _ => False) (LsI_abide _ _ _ _ hbo rbl) (fun _ _ _ _ _ _ h _ _ => h)
    ⟨_, bL, World.ownsRow_nil _ _ _ _, (fun _ h => h.elim), (fun _ h => by cases h), Keep.refl _ _⟩ ?round ?done ?stop
  case round =>
    rintro ll pre ⟨⟨xq, xn, xc⟩, x⟩ rest Pv G args Wr hll hxs ⟨v, hbx, hrow, hge, hnv, hKW⟩ hPl hGl hPb hGP ⟨harg, rfl⟩
    obtain rfl : args = #[.agg #[.slice xq xn xc]] := harg
    have hxm : ((xq, xn, xc), x) ∈ zs := by rw [hxs]; simp
    have hpl : (lessZ g pre).length + 1 ≤ 1099511627777 := by
      have h0 := lessZ_len g pre
      have := lf
      rw [hxs, List.length_append, List.length_cons] at this
      omega
    have hll2 := hPb ll hPl
    clear hxs hit
    gi_wp2
    refine ⟨Keep.alloc _ _ _, fun W5 hk5 hs5 r hr => ?_⟩
    have hka := Keep.alloc (fun _ => True) Wr (.cells #[.slice xq xn xc] 84)
    have bx := hk5.boxed (Boxed.new Wr 84 (.slice xq xn xc)) (by omega)
    have hk5' : Keep (fun b => ¬ Pv b) Wr W5 := (hka.mono fun _ _ _ => trivial).trans (hk5.mono fun b _ hb h => hb (h ▸ hPl))
    have hnP : ∀ b, b < W3.heap.size → ¬ Pv b := fun b hb h => by have := hge b h; omega
    replace hbx := hk5'.boxed hbx (hnP _ hbo)
    replace hrow := hk5'.row hrow hnv
    have hK5 : Keep RB W3 W5 := hKW.trans (hk5'.mono fun b _ hb => hnP b (rbl b hb))
    have hPl5 : ∀ b, Pv b → b < W5.heap.size := fun b hb => Nat.lt_of_lt_of_le (hPb b hb) hk5'.size
    have hsr : Wr.heap.size < W5.heap.size := bx.lt
    have hszW := hK5.size
    have A5 : Below w.heap.size w W5 := A3.trans ((hK5.mono fun b _ h => (rb.out b).2 (by omega)).below A3.size)
    have b15 := hK5.boxed b1 ((rb.out _).2 (by omega))
    have hz := (z1 _ hxm).below A5
    have con := oneImplies_any q2 n2 c2 g (.agg #[.slice xq xn xc]) x W5 (r2.below A5) hz.set hz.few (by omega)
    have c1' := b15.cell
    have cx := bx.cell
    have HSN := Lib.hid (lessZ_snoc g pre ((xq, xn, xc), x))
    simp only at HSN
    have hown5 : ∀ b, v.ownBlock = some b → W3.heap.size ≤ b ∧ b < W5.heap.size := fun b hb => hrow.lt b hb
    clear hk5 hka hs5 hr hz hk5' hKW
    obtain ⟨ob, hob⟩ : ∃ ob, oneB g x = ob := ⟨_, rfl⟩
    rw [hob] at con HSN
    clear hob
    cases ob with
    | true =>
      have HT := Lib.hid (show lessZ g (pre ++ [((xq, xn, xc), x)]) = lessZ g pre by rw [HSN.out]; simp)
      clear HSN
      gi_wp2_with fail
      refine ⟨trivial, rfl, (CallsIn.inRound ll (callsIn_wide.2 con)).mono ?_⟩
      rintro e w6 ⟨rfl, hb6⟩
      have kb := Keep.of_below hb6
      clear con
      gi_wp2
      refine ⟨kb.mono fun b hb h => ?_, v, kb.boxed hbx hbx.lt, ?_, fun b hb => hge b hb, fun b hb hp => hnv b hb hp, hK5.trans (kb.mono fun b _ h => by have := rbl b h; omega)⟩
      · rcases h with h | h
        · have := rbl b h; omega
        · exact hPl5 b h
      · rw [HT.out]
        exact kb.row hrow (fun b hb => (hown5 b hb).2)
    | false =>
      have HT := Lib.hid (show lessZ g (pre ++ [((xq, xn, xc), x)]) = lessZ g pre ++ [((xq, xn, xc), x)] by rw [HSN.out]; simp)
      clear HSN
      gi_wp2_with fail
      refine ⟨trivial, rfl, (CallsIn.inRound ll (callsIn_wide.2 con)).mono ?_⟩
      rintro e w6 ⟨rfl, hb6⟩
      have kb := Keep.of_below hb6
      have hsz6 := hb6.size
      have hbx7 := kb.boxed hbx hbx.lt
      have hrow7 := kb.row hrow (fun b hb => (hown5 b hb).2)
      have cx7 := (kb.boxed bx bx.lt).cell
      have cB := hbx7.cell
      have cB2 := (hbx7.alloc (.cells #[.slice xq xn xc] 84)).cell
      generalize hll3 : (lessZ g pre).length = m at *
      have HL3 := Lib.hid hll3
      clear con hll3
      gi_wp2_with (gi_at_builtin; go_must (refine wpListIn_append_own_at _ rfl _ _ 24 rfl W3.heap.size 84 i0 (.agg #[.slice none 0 0]) 1 24 Tryz.underlying24 hi0 hz0 hz1 hz2 rfl (by decide) _ _ _ rfl (hrow7.alloc _) ⟨w6.heap.size, 0, none⟩ 1 1 [.slice xq xn xc] rfl rfl (cell_one_new _ _ _) (by simp [Value.oneCell']) (by unfold maxLen; omega) (by omega) (by simp; omega) ?_); intro v' w1 hown' hgrow _ hat; obtain ⟨g', cap', rfl⟩ := ownsRow_succ hown'; obtain ⟨hv1, hv2, hr2, hkk⟩ := appended_keep (S := fun b => b ≠ w.heap.size + 3 ∧ v.ownBlock ≠ some b) hbx7 (by decide) hrow7 (fun h => h.1 rfl) (fun b hb h => h.2 hb) hown' hgrow; have hc1 := hv1.cell; have hf1 := hv1.frozen)
      have hat' : some g' = v.ownBlock ∨ some g' = some (w6.alloc (.cells #[.slice xq xn xc] 84)).heap.size := hat
      have hk6 : ∀ S : Nat → Prop, (∀ b, S b → b < W5.heap.size ∧ b ≠ w.heap.size + 3 ∧ v.ownBlock ≠ some b) → Keep S W5 (w1.setCell ⟨w.heap.size + 3, 0, none⟩ (.slice (some ⟨g', 0, none⟩) (m + 1) cap')) := fun S hS => (kb.mono fun b _ h => (hS b h).1).trans (hkk.mono fun b _ h => (hS b h).2)
      have hkr : ∀ b, RB b → b < W5.heap.size ∧ b ≠ w.heap.size + 3 ∧ v.ownBlock ≠ some b := fun b h => by
        have h2 := rbl b h
        exact ⟨by omega, ((rb.out b).1 h).2, fun e => by have := (hown5 b e).1; omega⟩
      refine ⟨hk6 _ (fun b hb => ?_), _, hv2, ?_, fun b hb => hge b hb, fun b hb hp => ?_, hK5.trans (hk6 _ hkr)⟩
      · rcases hb with h | h
        · exact hkr b h
        · exact ⟨hPl5 b h, fun e => by have := hge b h; omega, fun e => hnv b e h⟩
      · rw [HT.out, List.length_append, List.map_append, HL3.out]
        simpa [encC] using hr2
      · have hg : v.ownBlock = some b ∨ W5.heap.size ≤ b := by
          have hb' : some g' = some b := hb
          rcases hat' with h | h
          · exact .inl (h ▸ hb')
          · rw [hb'] at h
            have := Option.some.inj h
            simp at this
            exact .inr (by omega)
        rcases hg with h | h
        · exact hnv b h hp
        · have := hPl5 b hp; omega
  case done =>
    rintro D Pv Wd hD hPD hPl ⟨v, hbx, hrow, hge, hnv, hKW⟩ hK
    obtain ⟨q5, c5, rfl, hc5, _, hs5, hq5⟩ := slIn_of_owns hrow
    have bRd := hKW.boxed bR ((rb.out _).2 (by omega))
    have hBd : Below w.heap.size w Wd := A3.trans ((hKW.mono fun b _ h => (rb.out b).2 (by omega)).below A3.size)
    have cB := hbx.cell
    have hDl := hPl D hPD
    have hDg := hge D hPD
    have kf := bRd.frozen
    have kc := bRd.cell
    have hqn : ∀ a, q5 = some a → W3.heap.size ≤ a.block := fun a ha => (hq5 a ha).1
    have hF : FrmIs Wd (.agg #[.slice q5 (lessZ g zs).length c5]) (lessF (zs.map Prod.snd) g) := ⟨_, _, _, rfl, (fun h => by subst h; exact (Cls.row_nil hrow).2), hc5, lessZ g zs, hs5, fun z hz => ((z1 z (List.mem_filter.1 hz).1).below hBd), less_of g zs⟩
    have hR1 := bRd.set (.slice q5 (lessZ g zs).length c5)
    have hF1 := hF.set (u' := .slice q5 (lessZ g zs).length c5) bRd (fun x h => by cases h) (fun a ha => by have := hqn a ha; omega)
    have hD1 := (Keep.setCell (S := fun b => b = D) Wd ⟨w.heap.size + 2, 0, none⟩ (.slice q5 (lessZ g zs).length c5) (by simp; omega)).heap rfl hK
    have A7 := hBd.setCell (p := ⟨w.heap.size + 2, 0, none⟩) (by simp) (.slice q5 (lessZ g zs).length c5)
    clear hrow hs5 hnv hge hKW hF hit bL hq5
    generalize (lessZ g zs).length = m at *
    gi_wp2
    refine ⟨by simp, .inl ⟨_, _, rfl, run_takeDeferred hD1, ?_⟩⟩
    have kp : ∀ (S : Nat → Prop) (W : World), ¬ S D → Keep S W (W.putObj D (.deferred none)) := fun S W h => Keep.putObj _ _ _ h
    refine ⟨_, ret_frm rfl _ _ (w.heap.size + 2) _ rfl ((kp (fun b => b = w.heap.size + 2) _ (by omega)).boxed hR1 rfl), q5, m, c5, rfl, hF1.put hD1, fun a ha => by have := hqn a ha; omega, A7.trans ((kp (fun b => b < w.heap.size) _ (by omega)).below A7.size)⟩
  case stop =>
    rintro D cc pre rest Pv Wd hD hPD hPl hxs h hK
    exact h.elim

end Go.Proofs.YtpabhppghljipaaGreatDoor.Frm

namespace Go.Proofs.YtpabhppghljipaaGreatDoor.Frm
open Go.RowKit Go.Shelf Go.Sort Url Org Cls
attribute [local go_sem] Oper.semAt_some
set_option linter.unusedVariables false

/-! ### lives -/
/-! ### Of -/
set_option maxRecDepth 100000 in
set_option maxHeartbeats 4000000 in
theorem lawOf_any (q : Option Addr) (n c : Nat) (t : List UInt8) (w : World) (hby : By w (.slice q n c) t) (hG : Gl w) :
    Calls Tryz.prog 9 #[.slice q n c] w fun e w' => ∃ q n c, e = .returned (.agg #[.slice q n c]) ∧ FrmIs w' (.agg #[.slice q n c]) (frmV (parseF (t.take 400))) ∧ Below w.heap.size w w' := by
  obtain ⟨h1, h2, h3, h4, h5⟩ := hby.at
  obtain ⟨W1, hW1⟩ : ∃ W1, w.alloc (.cells #[.slice none 0 0] 26) = W1 := ⟨_, rfl⟩
  have A1 : Below w.heap.size w W1 := hW1 ▸ below_alloc _
  have b1 : Boxed W1 w.heap.size 26 (.slice none 0 0) := hW1 ▸ Boxed.new w _ _
  have HW1 := Lib.hid hW1
  have hsub := hby.sub (Nat.zero_le (min n 400)) (Nat.min_le_left n 400)
  rw [subA_zero, Nat.sub_zero, Nat.sub_zero] at hsub
  have et : sub t 0 (min n 400) = t.take 400 := by
    unfold sub
    rw [List.drop_zero, Nat.sub_zero, ← h1]
    rcases Nat.le_total t.length 400 with h | h
    · rw [Nat.min_eq_left h, List.take_of_length_le h, List.take_of_length_le (Nat.le_refl _)]
    · rw [Nat.min_eq_right h]
  rw [et] at hsub
  have con := Parse_any q (min n 400) c (t.take 400) W1 (hsub.on A1) (.inl (by omega)) (hG.on A1)
  have HM := Lib.hid (show (min (n : Int) 400).toNat = min n 400 by omega)
  obtain ⟨r, hr⟩ : ∃ r, parseF (t.take 400) = r := ⟨_, rfl⟩
  rw [hr] at con ⊢
  clear hW1 hsub et hr hG h5 hby h1
  go_enter Tryz.func9, Tryz.ntmps9
  go_wp2_with fail
  rw [HW1.out, HM.out]
  refine con.mono ?_
  rintro e w2 ⟨q2, n2, c2, rfl, hs2, hq2, hb2⟩
  have b2 := ((Keep.of_below hb2).boxed b1 b1.lt).alloc (.cells #[.slice q2 n2 c2] 26)
  have A2 := A1.trans (hb2.mono A1.size)
  have f2 := hs2.below (below_alloc (.cells #[.slice q2 n2 c2] 26))
  have A3 := A2.alloc A2.size (.cells #[.slice q2 n2 c2] 26)
  have kf := b2.frozen
  have kc := b2.cell
  have hb1l := b1.lt
  have f3 := f2.set (u' := .slice q2 n2 c2) b2 (fun x h => by cases h) (fun a ha => by have := hq2 a ha; omega)
  have b3 := (b2.set (.slice q2 n2 c2)).cell
  clear con
  go_wp2
  refine bodyPost_ret (v := .agg #[.slice q2 n2 c2]) (by simp [results, Tryz.f9, go_sem, b3]) rfl ?_
  exact ⟨q2, n2, c2, rfl, f3, A3.setCell (by simp) _⟩

/-! ### what is told, collected -/
end Go.Proofs.YtpabhppghljipaaGreatDoor.Frm

namespace Go.Proofs.YtpabhppghljipaaGreatDoor.Frm
open Go.RowKit Go.Shelf Go.Sort Url Org Cls
attribute [local go_sem] Oper.semAt_some
set_option linter.unusedVariables false

/-- A row of rows of texts: the document's formula. -/
def RefIn (w : World) (q : Option Addr) (n : Nat) (xs : List (List (List UInt8))) : Prop := ∃ zs : List Cl, SlIn encC w q n zs ∧ (∀ z ∈ zs, ClAt w z ∧ (z.1.1 = none → z.1.2.2 = 0)) ∧ xs = zs.map Prod.snd
/-- The rows that have come lie in the box's row; Pv: what others hold. -/
def RefL (Bo base : Nat) (W0 : World) (Pv : Nat → Prop) (W : World) (acc : List (List (List UInt8))) : Prop :=
  ∃ v, ∃ ls : List Cl, Boxed W Bo 32 v ∧ W.ownsRow base 49 1 v ls.length (ls.map encC) ∧ (∀ z ∈ ls, (ClAt W z ∧ (z.1.1 = none → z.1.2.2 = 0)) ∧ ∀ a, z.1.1 = some a → 0 < z.1.2.1 → ¬ Pv a.block ∧ W0.heap.size ≤ a.block ∧ v.ownBlock ≠ some a.block) ∧ ls.map Prod.snd = acc ∧
    (∀ b, Pv b → W0.heap.size ≤ b) ∧ (∀ b, v.ownBlock = some b → ¬ Pv b) ∧ Keep (fun b => b < base) W0 W
theorem RefL.step {Bo base : Nat} {Pv Pv' : Nat → Prop} {W0 A B : World} {acc : List (List (List UInt8))} (h : RefL Bo base W0 Pv A acc) (hBo : Bo < W0.heap.size) (hbs : base ≤ W0.heap.size) (hk : Keep (fun b => ¬ Pv b) A B) (hp : ∀ b, Pv' b → (Pv b ∨ A.heap.size ≤ b)) : RefL Bo base W0 Pv' B acc := by
  obtain ⟨v, ls, h1, h2, hz, hc, h3, h5, h6⟩ := h
  have hs := h6.size
  refine ⟨v, ls, hk.boxed h1 (fun h => by have := h3 _ h; omega), hk.row h2 h5, fun z hz' => ⟨⟨(hz z hz').1.1.from hk (fun a ha h0 => ((hz z hz').2 a ha h0).1), (hz z hz').1.2⟩, fun a ha h0 => ⟨fun hp' => ?_, ((hz z hz').2 a ha h0).2⟩⟩, hc, fun b hb => ?_, fun b hb hp' => ?_, h6.trans (hk.mono fun b _ hb hpb => by have := h3 b hpb; omega)⟩
  · rcases hp _ hp' with h | h
    · exact ((hz z hz').2 a ha h0).1 h
    · have := (hz z hz').1.1.lt a ha h0; omega
  · rcases hp b hb with h | h
    · exact h3 b h
    · omega
  · rcases hp _ hp' with h | h
    · exact h5 b hb h
    · have := (h2.lt b hb).2; omega

end Go.Proofs.YtpabhppghljipaaGreatDoor.Frm

namespace Go.Proofs.YtpabhppghljipaaGreatDoor.Frm
open Go.RowKit Go.Shelf Go.Sort Url Org Cls
attribute [local go_sem] Oper.semAt_some
set_option linter.unusedVariables false

/-- What has come, and what is left, together make the list. -/
structure RiseK (l0 out l : List (List UInt8)) : Prop where
  rise : Rises out
  less : ∀ a ∈ out, ∀ b ∈ l, a < b
  mem : ∀ a, a ∈ l0 ↔ a ∈ out ∨ a ∈ l
theorem RiseK.done {l0 out : List (List UInt8)} (h : RiseK l0 out []) : out = sortR l0 :=
  rises_ext h.rise (sort_rises l0) fun a => by rw [mem_sort, h.mem]; simp
end Go.Proofs.YtpabhppghljipaaGreatDoor.Frm

namespace Go.Proofs.YtpabhppghljipaaGreatDoor.Lbl
open Go.RowKit Go.Shelf Go.Sort Url Org Cls Frm
attribute [local go_sem] Oper.semAt_some
set_option linter.unusedVariables false

/-- The value v is the label l, in w. -/
def LabIs (w : World) (v : Value) (l : Lab) : Prop := ∃ q1 n1 c1 q2 n2 c2, v = .agg #[.slice q1 n1 c1, .slice q2 n2 c2] ∧ FrmIs w (.agg #[.slice q1 n1 c1]) l.s ∧ FrmIs w (.agg #[.slice q2 n2 c2]) l.i
theorem LabIs.below {w w' : World} {v : Value} {l : Lab} (h : LabIs w v l) (hb : Below w.heap.size w w') : LabIs w' v l := by
  obtain ⟨q1, n1, c1, q2, n2, c2, rfl, h1, h2⟩ := h
  exact ⟨q1, n1, c1, q2, n2, c2, rfl, h1.below hb, h2.below hb⟩
/-- Block B holds a label's cells. -/
def LB (B : Nat) (cs : Array Value) (X : World) : Prop := X.heap[B]? = some (.cells cs 29 (0, 0))
theorem LB.box {B : Nat} {cs : Array Value} {X : World} (h : LB B cs X) : Box B cs X := fun i x hx => by
  simp only [World.cell?, show X.heap[B]? = _ from h]; exact hx
theorem LB.frozen {B : Nat} {cs : Array Value} {X : World} (h : LB B cs X) (i : Nat) : X.frozen? ⟨B, i, none⟩ = false := by
  simp [World.frozen?, show X.heap[B]? = _ from h]
theorem LB.on {B : Nat} {cs : Array Value} {X Y : World} (h : LB B cs X) (hk : Below X.heap.size X Y) : LB B cs Y := (hk.block B (Array.getElem?_eq_some_iff.1 h).1).trans h
theorem LB.lt {B : Nat} {cs : Array Value} {X : World} (h : LB B cs X) : B < X.heap.size := (Array.getElem?_eq_some_iff.1 h).1
theorem LB.new (w : World) (cs : Array Value) : LB w.heap.size cs (w.alloc (.cells cs 29)) := World.alloc_heap_new w _
theorem LB.set {B : Nat} {cs : Array Value} {X : World} (h : LB B cs X) (i : Nat) (v : Value) : LB B (cs.setIfInBounds i v) (X.setCell ⟨B, i, none⟩ v) := by
  obtain ⟨hlt, hk⟩ := Array.getElem?_eq_some_iff.1 h
  show (X.heap.modify B _)[B]? = _
  rw [Array.getElem?_eq_getElem (by rw [Array.size_modify]; exact hlt), Array.getElem_modify_self, hk]
  rfl
/-- Both cells set, one by one. -/
theorem LB.put {B : Nat} {X : World} {a0 a1 : Value} (h : LB B #[a0, a1] X) (v0 v1 : Value) :
    ∃ Y, (X.setCell ⟨B, 0, none⟩ v0).setCell ⟨B, 1, none⟩ v1 = Y ∧ LB B #[v0, v1] Y ∧ (∀ S : Nat → Prop, ¬ S B → Keep S X Y) ∧ ∀ M, M ≤ B → Below M X Y := by
  have h8 := (h.set 0 v0).set 1 v1
  simp only [List.setIfInBounds_toArray, List.set_cons_zero, List.set_cons_succ] at h8
  refine ⟨_, rfl, h8, fun S hS => ?_, fun M hM => ?_⟩
  · exact (Keep.setCell _ _ _ hS).trans (Keep.setCell _ _ _ hS)
  · exact ((Below.refl M X).setCell (p := ⟨B, 0, none⟩) hM v0).setCell (p := ⟨B, 1, none⟩) hM v1
theorem size_lab : (Tryz.prog.info? 29).map (·.size) = some 2 := by kernel_rfl
/-- A label that lies in the result's cell is handed over. -/
theorem ret_lab {fn : Func} {p : Tmp} (h : fn.results = #[.cell p 29]) (tmps : Array Value) (w : World) (B : Nat) (cs : Array Value) (hp : tmps.getD p undef = .pointer (some ⟨B, 0, none⟩)) (hU : LB B cs w) (hs : cs.size = 2) :
    (results fn tmps).run Tryz.prog w = .ok (.agg cs) w :=
  results_cell_row h tmps w B _ cs (0, 0) _ hp hU Tryz.underlying29 rfl (by rw [size_lab, hs])
theorem ret_lab2 {fn : Func} {p u : Tmp} (h : fn.results = #[.cell p 29, .tmp u]) (tmps : Array Value) (w : World) (B : Nat) (cs : Array Value) (hp : tmps.getD p undef = .pointer (some ⟨B, 0, none⟩)) (hU : LB B cs w) (hs : cs.size = 2) :
    (results fn tmps).run Tryz.prog w = .ok (.tuple #[.agg cs, tmps.getD u undef]) w := by
  rw [results_cell_tmp h, hp]
  simp [asAddr, Result.andThen, run_loadVar_row w B 29 _ cs (0, 0) _ hU Tryz.underlying29 rfl (by rw [size_lab, hs])]

/-- A row of texts does not lie in a label's block. -/
theorem slIn_ne_lb {w : World} {q : Option Addr} {n : Nat} {xs : List (List UInt8)} {B : Nat} {s0 s1 : Value} (h : SlIn encStr w q n xs) (hB : LB B #[s0, s1] w) (h0 : ∀ x, encStr x ≠ s0) (h1 : ∀ x, encStr x ≠ s1) : ∀ a, q = some a → 0 < n → a.block ≠ B := by
  rintro a rfl hn rfl
  obtain ⟨b, o, he, _, hc⟩ := h.at hn
  cases he
  cases xs with
  | nil => have := h.1; simp at this; omega
  | cons x xs =>
    have k1 := hc 0 x rfl
    have k2 : w.heap[b]? = some (.cells #[s0, s1] 29 (0, 0)) := hB
    simp only [World.cell?, k2] at k1
    rcases (show o = 0 ∨ o = 1 ∨ 2 ≤ o by omega) with ho | ho | ho
    · subst ho; simp at k1; exact h0 x k1.symm
    · subst ho; simp at k1; exact h1 x k1.symm
    · simp at k1; rw [List.getElem?_eq_none (by simp; omega)] at k1; cases k1
/-- A formula does not mind what becomes of a label's block, its row lying elsewhere. -/
theorem FrmIs.off {w Y : World} {q : Option Addr} {n c : Nat} {f : List (List (List UInt8))} {B : Nat} {q1 q2 : Option Addr} {n1 c1 n2 c2 : Nat} (h : FrmIs w (.agg #[.slice q n c]) f) (hB : LB B #[.slice q1 n1 c1, .slice q2 n2 c2] w)
    (hq : ∀ a, q = some a → 0 < n → a.block ≠ B) (hk : Keep (fun b => b ≠ B) w Y) : FrmIs Y (.agg #[.slice q n c]) f := by
  obtain ⟨h1, h2, zs, s, z, rfl⟩ := h.row
  exact ⟨q, n, c, rfl, h1, h2, zs, s.keep hk hq, fun x hx => (z x hx).from hk fun a ha h0 => by
    obtain ⟨_, _, _, he, _, _, hs, _⟩ := (z x hx).set
    cases he
    exact slIn_ne_lb hs hB (fun x h => by cases h) (fun x h => by cases h) a ha h0, rfl⟩
/-- Few clauses on both sides. -/
def Few (l : Lab) : Prop := l.s.length ≤ 16 ∧ l.i.length ≤ 16
/-! ### Open, Shut, Pure -/
set_option maxRecDepth 100000 in
set_option maxHeartbeats 4000000 in
theorem Open_any (w : World) : Calls Tryz.prog 29 #[] w fun e w' => ∃ v, e = .returned v ∧ LabIs w' v ⟨[], []⟩ ∧ Below w.heap.size w w' := by
  obtain ⟨W1, hW1⟩ : ∃ W1, w.alloc (.cells #[.slice none 0 0, .slice none 0 0] 29) = W1 := ⟨_, rfl⟩
  have A1 : Below w.heap.size w W1 := hW1 ▸ below_alloc _
  have b1 : LB w.heap.size #[.slice none 0 0, .slice none 0 0] W1 := hW1 ▸ LB.new w _
  have HW1 := Lib.hid hW1
  have HL1 := Lib.hid b1.lt
  clear hW1
  go_enter Tryz.func29, Tryz.ntmps29
  go_wp2_with fail
  rw [HW1.out]
  clear HW1
  have con := Always_any W1
  refine con.mono ?_
  rintro e w2 ⟨rfl, hb⟩
  have fS : FrmIs w2 (.agg #[.slice none 0 0]) [] := frm_nil _
  have nS : ∀ a, (none : Option Addr) = some a → 0 < 0 → a.block ≠ w.heap.size := fun a h => by cases h
  have b2 := b1.on hb
  have A2 := A1.trans (hb.mono A1.size)
  replace HL1 := Lib.hid b2.lt
  clear con hb b1
  have con := Always_any w2
  go_wp2_with fail
  refine con.mono ?_
  rintro e w3 ⟨rfl, hb⟩
  have fI : FrmIs w3 (.agg #[.slice none 0 0]) [] := frm_nil _
  have nI : ∀ a, (none : Option Addr) = some a → 0 < 0 → a.block ≠ w.heap.size := fun a h => by cases h
  replace fS := fS.below hb
  have b3 := b2.on hb
  have A3 := A2.trans (hb.mono A2.size)
  replace HL1 := Lib.hid b3.lt
  clear con hb b2
  have kf0 := b3.frozen 0
  have kf1 := b3.frozen 1
  have z0 := b3.box 0 _ rfl
  have z1 := b3.box 1 _ rfl
  obtain ⟨Y, hY, b4, hk, hB4⟩ := b3.put (.slice none 0 0) (.slice none 0 0)
  have HY := Lib.hid hY
  have rS := FrmIs.off fS b3 nS (hk _ (by simp))
  have rI := FrmIs.off fI b3 nI (hk _ (by simp))
  clear hY fS fI nS nI
  go_wp2
  rw [HY.out]
  refine bodyPost_ret (ret_lab rfl _ _ w.heap.size _ rfl b4 rfl) rfl ?_
  exact ⟨_, rfl, ⟨_, _, _, _, _, _, rfl, rS, rI⟩, A3.trans (hB4 _ (Nat.le_refl _))⟩

end Go.Proofs.YtpabhppghljipaaGreatDoor.Lbl

namespace Go.Proofs.YtpabhppghljipaaGreatDoor.Lbl
open Go.RowKit Go.Shelf Go.Sort Url Org Cls Frm
attribute [local go_sem] Oper.semAt_some
set_option linter.unusedVariables false

end Go.Proofs.YtpabhppghljipaaGreatDoor.Lbl

namespace Go.Proofs.YtpabhppghljipaaGreatDoor.Frm
open Go.RowKit Go.Shelf Go.Sort Url Org Cls
attribute [local go_sem] Oper.semAt_some
set_option linter.unusedVariables false

theorem RefIn.few {w : World} {q : Option Addr} {n : Nat} {xs : List (List (List UInt8))} (h : RefIn w q n xs) : ∀ x ∈ xs, x.length ≤ 16 := by
  obtain ⟨zs, _, h2, rfl⟩ := h
  intro x hx
  obtain ⟨z, hz, rfl⟩ := List.mem_map.1 hx
  exact (h2 z hz).1.few
end Go.Proofs.YtpabhppghljipaaGreatDoor.Frm

namespace Go.Proofs.YtpabhppghljipaaGreatDoor.Lbl
open Go.RowKit Go.Shelf Go.Sort Url Org Cls Frm
attribute [local go_sem] Oper.semAt_some
set_option linter.unusedVariables false

end Go.Proofs.YtpabhppghljipaaGreatDoor.Lbl

namespace Go.Proofs.YtpabhppghljipaaGreatDoor.Lbl
open Go.RowKit Go.Shelf Go.Sort Url Org Cls Frm
attribute [local go_sem] Oper.semAt_some
set_option linter.unusedVariables false

end Go.Proofs.YtpabhppghljipaaGreatDoor.Lbl

namespace Go.Proofs.YtpabhppghljipaaGreatDoor.Lbl
open Go.RowKit Go.Shelf Go.Sort Url Org Cls Frm
attribute [local go_sem] Oper.semAt_some
set_option linter.unusedVariables false

end Go.Proofs.YtpabhppghljipaaGreatDoor.Lbl

namespace Go.Proofs.YtpabhppghljipaaGreatDoor.Lbl
open Go.RowKit Go.Shelf Go.Sort Url Org Cls Frm
attribute [local go_sem] Oper.semAt_some
set_option linter.unusedVariables false

/-- A label and no error, or open and one; what is told lies in new memory. -/
def LabOut (r : Sum Int Lab) (w : World) (e : Ending) (w' : World) : Prop :=
  ∃ q1 n1 c1 q2 n2 c2, e = .returned (.tuple #[.agg #[.slice q1 n1 c1, .slice q2 n2 c2], .int .i64 (labE r)]) ∧ FrmIs w' (.agg #[.slice q1 n1 c1]) (labV r).s ∧ FrmIs w' (.agg #[.slice q2 n2 c2]) (labV r).i ∧
    (∀ a, q1 = some a → 0 < n1 → w.heap.size ≤ a.block) ∧ (∀ a, q2 = some a → 0 < n2 → w.heap.size ≤ a.block) ∧ Below w.heap.size w w'
theorem labOut_open {w w' : World} (n : Int) (h : Below w.heap.size w w') : LabOut (.inl n) w (.returned (.tuple #[.agg #[.slice none 0 0, .slice none 0 0], .int .i64 n])) w' :=
  ⟨none, 0, 0, none, 0, 0, rfl, frm_nil _, frm_nil _, (fun a h => by cases h), (fun a h => by cases h), h⟩
end Go.Proofs.YtpabhppghljipaaGreatDoor.Lbl

namespace Go.Proofs.YtpabhppghljipaaGreatDoor.Frm
open Go.RowKit Go.Shelf Go.Sort Url Org Cls
attribute [local go_sem] Oper.semAt_some
set_option linter.unusedVariables false

/-! ### the formula of one principal -/
end Go.Proofs.YtpabhppghljipaaGreatDoor.Frm

namespace Go.Proofs.YtpabhppghljipaaGreatDoor.Lbl
open Go.RowKit Go.Shelf Go.Sort Url Org Cls Frm
attribute [local go_sem] Oper.semAt_some
set_option linter.unusedVariables false

/-- The label of one principal. -/
def oneL (p : List UInt8) : Sum Int Lab := match singleR p with
  | .inl e => .inl e
  | .inr f => .inr ⟨f, []⟩
theorem oneL_val (p : List UInt8) : labV (oneL p) = ⟨frmV (singleR p), []⟩ ∧ labE (oneL p) = frmE (singleR p) := by
  unfold oneL
  cases singleR p <;> exact ⟨rfl, rfl⟩

set_option maxRecDepth 100000 in
set_option maxHeartbeats 8000000 in
theorem Of_any (p : List UInt8) (w : World) (hl : p.length ≤ 1300) (hG : Gl w) :
    Calls Tryz.prog 31 #[.string ⟨p.toArray⟩] w (LabOut (oneL p) w) := by
  obtain ⟨W, hW⟩ : ∃ W, w.alloc (.cells #[.slice none 0 0, .slice none 0 0] 29) = W := ⟨_, rfl⟩
  have A1 : Below w.heap.size w W := hW ▸ below_alloc _
  have b8 : LB w.heap.size #[.slice none 0 0, .slice none 0 0] W := hW ▸ LB.new w _
  have HSZ := Lib.hid (show W.heap.size = w.heap.size + 1 by rw [← hW]; simp)
  have con := Single_any p W hl (hG.on A1)
  have HV := Lib.hid (oneL_val p)
  have HW := Lib.hid hW
  unfold LabOut
  rw [HV.out.1, HV.out.2]
  obtain ⟨r, hr⟩ : ∃ r, singleR p = r := ⟨_, rfl⟩
  rw [hr] at con ⊢
  unfold FrmOut at con
  obtain ⟨en, hen⟩ : ∃ n, frmE r = n := ⟨_, rfl⟩
  obtain ⟨rv, hrv⟩ : ∃ v, frmV r = v := ⟨_, rfl⟩
  rw [hen, hrv] at con ⊢
  clear hW hr hen hrv hG HV
  go_enter Tryz.func31, Tryz.ntmps31
  go_wp2_with fail
  rw [HW.out]
  refine con.mono ?_
  rintro e w2 ⟨q5, n5, c5, rfl, f5, k5, hb⟩
  have A2 := A1.trans (hb.mono A1.size)
  have hba : Below w2.heap.size w2 (w2.alloc (.cells #[.slice q5 n5 c5] 26)) := below_alloc _
  have A3 := A2.trans (hba.mono A2.size)
  replace b8 := (b8.on hb).on hba
  have bx : Boxed (w2.alloc (.cells #[.slice q5 n5 c5] 26)) w2.heap.size 26 (.slice q5 n5 c5) := Boxed.new w2 _ _
  replace f5 := f5.below hba
  have K5 := Lib.hid (show ∀ a, q5 = some a → 0 < n5 → w.heap.size < a.block from fun a h _ => by have := k5 a h; have := HSZ.out; omega)
  have kf0 := b8.frozen 0
  have kf1 := b8.frozen 1
  have z0 := b8.box 0 _ rfl
  have z1 := b8.box 1 _ rfl
  have cx := bx.cell
  obtain ⟨Y, hY, bY, hkY, hBY⟩ := b8.put (.slice q5 n5 c5) (.slice none 0 0)
  have A6 := A3.trans (hBY _ (Nat.le_refl _))
  have g5 := FrmIs.off f5 b8 (fun a h h0 => by have := K5.out a h h0; omega) (hkY _ (by simp))
  have HY := Lib.hid hY
  clear con hb A1 HW k5 hba hY f5 bx
  go_wp2
  rw [HY.out]
  refine bodyPost_ret (ret_lab2 rfl _ _ w.heap.size _ rfl bY rfl) rfl ?_
  exact ⟨q5, n5, c5, none, 0, 0, rfl, g5, frm_nil _, (fun a h h0 => by have := K5.out a h h0; omega), (fun a h => by cases h), A6⟩

set_option maxRecDepth 100000 in
set_option maxHeartbeats 16000000 in
theorem Parse_any (q : Option Addr) (n c : Nat) (t : List UInt8) (w : World) (hby : By w (.slice q n c) t) (hn : n ≤ 1099511627775) (hp : n ≤ 4096 → (atFst 59 t).length ≤ 1300 ∧ (atSnd 59 t).length ≤ 1300) (hG : Gl w) :
    Calls Tryz.prog 33 #[.slice q n c] w (LabOut (parseL t) w) := by
  obtain ⟨W, hW⟩ : ∃ W, w.alloc (.cells #[.slice none 0 0, .slice none 0 0] 29) = W := ⟨_, rfl⟩
  have A1 : Below w.heap.size w W := hW ▸ below_alloc _
  have b8 : LB w.heap.size #[.slice none 0 0, .slice none 0 0] W := hW ▸ LB.new w _
  have HSZ := Lib.hid (show W.heap.size = w.heap.size + 1 by rw [← hW]; simp)
  obtain ⟨h1, h2, h3, h4, h5⟩ := (hby.on A1).at
  have HL := Lib.hid h1
  have HW := Lib.hid hW
  have con := At_any q n c t 59 W h1 hn h2 h4 h5
  have hGW := Lib.hid (hG.on A1)
  clear hW h1 h2 h3 h4 h5 hby hG
  go_enter Tryz.func33, Tryz.ntmps33
  by_cases hlong : 4096 < n
  · have d : decide ((4096 : Int) < (n : Int)) = true := by simp; omega
    have HR := Lib.hid (show parseL t = .inl 3 by unfold parseL; rw [if_pos (by rw [HL.out]; exact hlong)])
    have kf0 := b8.frozen 0
    have kf1 := b8.frozen 1
    have z0 := b8.box 0 _ rfl
    have z1 := b8.box 1 _ rfl
    rw [← HW.out] at kf0 kf1 z0 z1
    clear con hlong hp
    go_wp2
    rw [HW.out]
    refine bodyPost_ret (ret_lab2 rfl _ _ w.heap.size _ rfl b8 rfl) rfl ?_
    rw [HR.out]
    exact labOut_open 3 A1
  · have d : decide ((4096 : Int) < (n : Int)) = false := by simp; omega
    have hl4 : ¬ 4096 < t.length := by rw [HL.out]; exact hlong
    obtain ⟨p1, p2⟩ := hp (by omega)
    have HP2 := Lib.hid (parseL_two t hl4)
    have HP1 := Lib.hid (parseL_one t hl4)
    have HPB := Lib.hid (parseL_both t hl4)
    have HA0 := Lib.hid (show atOk 59 (atSnd 59 t) = true → atOk 59 t = true from fun h => by
      cases e : atOk 59 t with
      | true => rfl
      | false => rw [at_no_snd _ _ e, at_nil] at h; cases h)
    have HNF := Lib.hid (parseF_no (atFst 59 t))
    have HNS := Lib.hid (parseF_no (atSnd 59 t))
    obtain ⟨t1, ht1⟩ : ∃ x, atFst 59 t = x := ⟨_, rfl⟩
    obtain ⟨t2, ht2⟩ : ∃ x, atSnd 59 t = x := ⟨_, rfl⟩
    obtain ⟨k1, hk1⟩ : ∃ x, atOk 59 t = x := ⟨_, rfl⟩
    obtain ⟨r, hr⟩ : ∃ r, parseL t = r := ⟨_, rfl⟩
    rw [ht1, hk1, ht2] at con
    rw [ht1] at HNF p1
    rw [ht2] at HNS p2
    rw [hr, ht2] at HP2
    rw [hr, ht1, hk1] at HP1
    rw [hr, ht1, ht2, hk1] at HPB
    rw [ht2, hk1] at HA0
    rw [hr]
    clear hlong hp hl4 ht1 ht2 hk1 hr HL
    go_wp2_with fail
    rw [HW.out]
    refine con.mono ?_
    rintro e w2 ⟨v1, v2, rfl, r1, r2, hb⟩
    have A2 := A1.trans (hb.mono A1.size)
    have y1 := By.row r1
    have y2 := By.row r2
    obtain ⟨qa, ca, rfl⟩ := by_form y1
    obtain ⟨qb, cb, rfl⟩ := by_form y2
    replace b8 := b8.on hb
    have hG2 := Lib.hid (hGW.out.on hb)
    obtain ⟨m1, m2, m3, m4, m5⟩ := y2.at
    have con := At_any qb t2.length cb t2 59 w2 rfl (by omega) m2 m4 m5
    obtain ⟨k2, hk2⟩ : ∃ x, atOk 59 t2 = x := ⟨_, rfl⟩
    rw [hk2] at con HP2 HA0 HPB
    have Y1 := Lib.hid y1
    have Y2 := Lib.hid y2
    clear hb r1 r2 A1 HW m1 m2 m3 m4 m5 hk2 y1 y2 hGW
    go_wp2_with fail
    refine con.mono ?_
    rintro e w3 ⟨v3, v4, rfl, _, _, hb⟩
    have A3 := A2.trans (hb.mono A2.size)
    replace b8 := b8.on hb
    replace Y1 := Lib.hid (Y1.out.on hb)
    replace Y2 := Lib.hid (Y2.out.on hb)
    have hG3 := Lib.hid (hG2.out.on hb)
    have HS3 := Lib.hid (show w.heap.size < w3.heap.size from b8.lt)
    clear con hb A2 hG2
    cases k2 with
    | true =>
      have HR := HP2.out rfl
      have kf0 := b8.frozen 0
      have kf1 := b8.frozen 1
      have z0 := b8.box 0 _ rfl
      have z1 := b8.box 1 _ rfl
      obtain ⟨Y, hY, bY, _, hBY⟩ := b8.put (.slice none 0 0) (.slice none 0 0)
      have A4 := A3.trans (hBY _ (Nat.le_refl _))
      have HY := Lib.hid hY
      clear hY HP1 HPB
      subst HR
      go_wp2
      rw [HY.out]
      refine bodyPost_ret (ret_lab2 rfl _ _ w.heap.size _ rfl bY rfl) rfl ?_
      exact labOut_open 2 A4
    | false =>
      have con := Frm.Parse_any qa t1.length ca t1 w3 Y1.out (.inl p1) hG3.out
      obtain ⟨f1, hf1⟩ : ∃ r, parseF t1 = r := ⟨_, rfl⟩
      rw [hf1] at con HNF HP1 HPB
      clear HP2 HA0 hf1 Y1
      go_wp2_with fail
      refine con.mono ?_
      rintro e w4 ⟨q5, n5, c5, rfl, f5, k5, hb⟩
      have A4 := A3.trans (hb.mono A3.size)
      have hba : Below w4.heap.size w4 (w4.alloc (.cells #[.slice q5 n5 c5] 26)) := below_alloc _
      have A5 := A4.trans (hba.mono A4.size)
      replace b8 := (b8.on hb).on hba
      replace Y2 := Lib.hid ((Y2.out.on hb).on hba)
      have hG5 := Lib.hid ((hG3.out.on hb).on hba)
      have bx : Boxed (w4.alloc (.cells #[.slice q5 n5 c5] 26)) w4.heap.size 26 (.slice q5 n5 c5) := Boxed.new w4 _ _
      replace f5 := f5.below hba
      have K5 := Lib.hid (show ∀ a, q5 = some a → 0 < n5 → w.heap.size < a.block from fun a h _ => by have := k5 a h; have := HS3.out; omega)
      have HS4 := Lib.hid (show w.heap.size < w4.heap.size by have := HS3.out; have := hb.size; omega)
      have kf0 := b8.frozen 0
      have kf1 := b8.frozen 1
      have z0 := b8.box 0 _ rfl
      have z1 := b8.box 1 _ rfl
      have cx := bx.cell
      obtain ⟨Y, hY, bY, hkY, hBY⟩ := b8.put (.slice q5 n5 c5) (.slice none 0 0)
      have A6 := A5.trans (hBY _ (Nat.le_refl _))
      have g5 := FrmIs.off f5 b8 (fun a h h0 => by have := K5.out a h h0; omega) (hkY _ (by simp))
      have HY := Lib.hid hY
      clear con hb k5 hba hY hG3 A3 A4
      cases f1 with
      | inl e1 =>
        have hne : e1 ≠ 0 := by rcases HNF.out e1 rfl with h | h <;> omega
        have d2 : ((e1 : Int) != 0) = true := by unfold bne; rw [beq_eq_false_iff_ne.2 hne]; rfl
        have HR : r = .inl e1 := by
          cases k1 with
          | true => rw [HPB.out (by first | rfl | trivial) (by first | rfl | trivial)]
          | false => rw [HP1.out (by first | rfl | trivial)]
        subst HR
        clear hne HP1 HPB HNF f5 bx b8
        unfold frmE
        go_wp2
        rw [HY.out]
        refine bodyPost_ret (ret_lab2 rfl _ _ w.heap.size _ rfl bY rfl) rfl ?_
        exact ⟨q5, n5, c5, none, 0, 0, rfl, g5, frm_nil _, (fun a h h0 => by have := K5.out a h h0; omega), (fun a h => by cases h), A6⟩
      | inr f =>
        replace f5 : FrmIs _ (.agg #[.slice q5 n5 c5]) f := f5
        replace g5 : FrmIs Y (.agg #[.slice q5 n5 c5]) f := g5
        cases k1 with
        | false =>
          have HR : r = .inr ⟨f, []⟩ := by rw [HP1.out (by first | rfl | trivial)]
          subst HR
          clear HP1 HPB HNF f5 bx b8
          unfold frmE
          go_wp2
          rw [HY.out]
          refine bodyPost_ret (ret_lab2 rfl _ _ w.heap.size _ rfl bY rfl) rfl ?_
          exact ⟨q5, n5, c5, none, 0, 0, rfl, g5, frm_nil _, (fun a h h0 => by have := K5.out a h h0; omega), (fun a h => by cases h), A6⟩
        | true =>
          have con := Frm.Parse_any qb t2.length cb t2 _ Y2.out (.inl p2) hG5.out
          obtain ⟨f2, hf2⟩ : ∃ r, parseF t2 = r := ⟨_, rfl⟩
          have HPR := HPB.out (by first | rfl | trivial) (by first | rfl | trivial)
          rw [hf2] at con HNS HPR
          have HPQ := Lib.hid HPR
          clear HPR hf2 HP1 HPB HNF Y2 g5 bY hkY hBY A6 HY kf0 kf1 z0 z1 cx
          unfold frmE
          go_wp2_with fail
          refine con.mono ?_
          rintro e w6 ⟨q6, n6, c6, rfl, f6, k6, hb⟩
          have A6 := A5.trans (hb.mono A5.size)
          have hba : Below w6.heap.size w6 (w6.alloc (.cells #[.slice q6 n6 c6] 26)) := below_alloc _
          have A7 := A6.trans (hba.mono A6.size)
          replace b8 := (b8.on hb).on hba
          replace bx := (Keep.of_below hba).boxed ((Keep.of_below hb).boxed bx bx.lt) (Nat.lt_of_lt_of_le bx.lt hb.size)
          have by2 : Boxed (w6.alloc (.cells #[.slice q6 n6 c6] 26)) w6.heap.size 26 (.slice q6 n6 c6) := Boxed.new w6 _ _
          replace f5 := (f5.below hb).below hba
          replace f6 := f6.below hba
          have K6 := Lib.hid (show ∀ a, q6 = some a → 0 < n6 → w.heap.size < a.block from fun a h _ => by
            have h1 := k6 a h
            have h2 := HS4.out
            rw [World.size_alloc] at h1
            omega)
          have kf0 := b8.frozen 0
          have kf1 := b8.frozen 1
          have z0 := b8.box 0 _ rfl
          have z1 := b8.box 1 _ rfl
          clear con hb k6 hba A5 A6
          cases f2 with
          | inl e2 =>
            have hne : e2 ≠ 0 := by rcases HNS.out e2 rfl with h | h <;> omega
            have d2 : ((e2 : Int) != 0) = true := by unfold bne; rw [beq_eq_false_iff_ne.2 hne]; rfl
            have HR : r = .inl e2 := by rw [HPQ.out]
            subst HR
            obtain ⟨Y, hY, bY, _, hBY⟩ := b8.put (.slice none 0 0) (.slice none 0 0)
            have A8 := A7.trans (hBY _ (Nat.le_refl _))
            have HY := Lib.hid hY
            clear hne HPQ HNS f5 f6 bx by2 b8 hY
            unfold frmE
            go_wp2
            rw [HY.out]
            refine bodyPost_ret (ret_lab2 rfl _ _ w.heap.size _ rfl bY rfl) rfl ?_
            exact labOut_open e2 A8
          | inr g =>
            replace f6 : FrmIs _ (.agg #[.slice q6 n6 c6]) g := f6
            have HR : r = .inr ⟨f, g⟩ := by rw [HPQ.out]
            subst HR
            obtain ⟨Y, hY, bY, hkY, hBY⟩ := b8.put (.slice q5 n5 c5) (.slice q6 n6 c6)
            have A8 := A7.trans (hBY _ (Nat.le_refl _))
            have g5 := FrmIs.off f5 b8 (fun a h h0 => by have := K5.out a h h0; omega) (hkY _ (by simp))
            have g6 := FrmIs.off f6 b8 (fun a h h0 => by have := K6.out a h h0; omega) (hkY _ (by simp))
            have HY := Lib.hid hY
            have c10 := bx.cell
            have c12 := by2.cell
            clear HPQ HNS f5 f6 bx by2 b8 hY
            unfold frmE
            go_wp2
            rw [HY.out]
            refine bodyPost_ret (ret_lab2 rfl _ _ w.heap.size _ rfl bY rfl) rfl ?_
            exact ⟨q5, n5, c5, q6, n6, c6, rfl, g5, g6, (fun a h h0 => by have := K5.out a h h0; omega), (fun a h h0 => by have := K6.out a h h0; omega), A8⟩

end Go.Proofs.YtpabhppghljipaaGreatDoor.Lbl

namespace Go.Proofs.YtpabhppghljipaaGreatDoor.Lbl
open Go.RowKit Go.Shelf Go.Sort Url Org Cls Frm
attribute [local go_sem] Oper.semAt_some
set_option linter.unusedVariables false

/-- A box that holds a label. -/
def LX (b : Nat) (q1 : Option Addr) (n1 c1 : Nat) (q2 : Option Addr) (n2 c2 : Nat) (l : Lab) (X : World) : Prop := LB b #[.slice q1 n1 c1, .slice q2 n2 c2] X ∧ LabIs X (.agg #[.slice q1 n1 c1, .slice q2 n2 c2]) l
theorem LX.on {b : Nat} {q1 : Option Addr} {n1 c1 : Nat} {q2 : Option Addr} {n2 c2 : Nat} {l : Lab} {X Y : World} (h : LX b q1 n1 c1 q2 n2 c2 l X) (hb : Below X.heap.size X Y) : LX b q1 n1 c1 q2 n2 c2 l Y := ⟨h.1.on hb, h.2.below hb⟩
theorem LX.new {q1 : Option Addr} {n1 c1 : Nat} {q2 : Option Addr} {n2 c2 : Nat} {l : Lab} {X : World} (h : LabIs X (.agg #[.slice q1 n1 c1, .slice q2 n2 c2]) l) : LX X.heap.size q1 n1 c1 q2 n2 c2 l (X.alloc (.cells #[.slice q1 n1 c1, .slice q2 n2 c2] 29)) := ⟨LB.new X _, h.below (below_alloc _)⟩
theorem LX.c0 {b : Nat} {q1 : Option Addr} {n1 c1 : Nat} {q2 : Option Addr} {n2 c2 : Nat} {l : Lab} {X : World} (h : LX b q1 n1 c1 q2 n2 c2 l X) : X.cell? ⟨b, 0, none⟩ = some (.slice q1 n1 c1) := h.1.box 0 _ rfl
theorem LX.c1 {b : Nat} {q1 : Option Addr} {n1 c1 : Nat} {q2 : Option Addr} {n2 c2 : Nat} {l : Lab} {X : World} (h : LX b q1 n1 c1 q2 n2 c2 l X) : X.cell? ⟨b, 1, none⟩ = some (.slice q2 n2 c2) := h.1.box 1 _ rfl
theorem lok_few {l : Lab} (h : LOk l) : Few l := ⟨h.s.few, h.i.few⟩

/-! ### lives -/
/-! ### Of -/
set_option maxRecDepth 100000 in
set_option maxHeartbeats 8000000 in
theorem lawOf_any (q : Option Addr) (n c : Nat) (t : List UInt8) (w : World) (hby : By w (.slice q n c) t) (hG : Gl w) :
    Calls Tryz.prog 10 #[.slice q n c] w fun e w' => ∃ q1 n1 c1 q2 n2 c2, e = .returned (.agg #[.slice q1 n1 c1, .slice q2 n2 c2]) ∧ LabIs w' (.agg #[.slice q1 n1 c1, .slice q2 n2 c2]) (labV (parseL (t.take 400))) ∧ Below w.heap.size w w' := by
  obtain ⟨h1, h2, h3, h4, h5⟩ := hby.at
  obtain ⟨W, hW⟩ : ∃ W, w.alloc (.cells #[.slice none 0 0, .slice none 0 0] 29) = W := ⟨_, rfl⟩
  have A1 : Below w.heap.size w W := hW ▸ below_alloc _
  have b8 : LB w.heap.size #[.slice none 0 0, .slice none 0 0] W := hW ▸ LB.new w _
  have HSZ := Lib.hid (show W.heap.size = w.heap.size + 1 by rw [← hW]; simp)
  have HW := Lib.hid hW
  have hsub := hby.sub (Nat.zero_le (min n 400)) (Nat.min_le_left n 400)
  rw [subA_zero, Nat.sub_zero, Nat.sub_zero] at hsub
  have et : sub t 0 (min n 400) = t.take 400 := by
    unfold sub
    rw [List.drop_zero, Nat.sub_zero, ← h1]
    rcases Nat.le_total t.length 400 with h | h
    · rw [Nat.min_eq_left h, List.take_of_length_le h, List.take_of_length_le (Nat.le_refl _)]
    · rw [Nat.min_eq_right h]
  rw [et] at hsub
  have con := Lbl.Parse_any q (min n 400) c (t.take 400) W (hsub.on A1) (by omega) (fun _ => by have h1 := Frm.at_len 59 (t.take 400); rw [List.length_take] at h1; omega) (hG.on A1)
  have HM := Lib.hid (show (min (n : Int) 400).toNat = min n 400 by omega)
  obtain ⟨r, hr⟩ : ∃ r, parseL (t.take 400) = r := ⟨_, rfl⟩
  rw [hr] at con ⊢
  unfold LabOut at con
  obtain ⟨en, hen⟩ : ∃ n, labE r = n := ⟨_, rfl⟩
  obtain ⟨rv, hrv⟩ : ∃ v, labV r = v := ⟨_, rfl⟩
  rw [hen, hrv] at con
  rw [hrv]
  clear hW hsub et hr hG h5 hby h1 hen hrv
  go_enter Tryz.func10, Tryz.ntmps10
  go_wp2_with fail
  rw [HW.out, HM.out]
  refine con.mono ?_
  rintro e w2 ⟨q5, n5, c5, q6, n6, c6, rfl, f5, f6, k5, k6, hb⟩
  have A2 := A1.trans (hb.mono A1.size)
  have hba : Below w2.heap.size w2 (w2.alloc (.cells #[.slice q5 n5 c5, .slice q6 n6 c6] 29)) := below_alloc _
  have A3 := A2.trans (hba.mono A2.size)
  replace b8 := (b8.on hb).on hba
  have bx := LB.new w2 #[.slice q5 n5 c5, .slice q6 n6 c6]
  replace f5 := f5.below hba
  replace f6 := f6.below hba
  have K5 := Lib.hid (show ∀ a, q5 = some a → 0 < n5 → w.heap.size < a.block from fun a h h0 => by have := k5 a h h0; have := HSZ.out; omega)
  have K6 := Lib.hid (show ∀ a, q6 = some a → 0 < n6 → w.heap.size < a.block from fun a h h0 => by have := k6 a h h0; have := HSZ.out; omega)
  have kf0 := b8.frozen 0
  have kf1 := b8.frozen 1
  have z0 := b8.box 0 _ rfl
  have z1 := b8.box 1 _ rfl
  have x0 := bx.box 0 _ rfl
  have x1 := bx.box 1 _ rfl
  obtain ⟨Y, hY, bY, hkY, hBY⟩ := b8.put (.slice q5 n5 c5) (.slice q6 n6 c6)
  have A6 := A3.trans (hBY _ (Nat.le_refl _))
  have g5 := FrmIs.off f5 b8 (fun a h h0 => by have := K5.out a h h0; omega) (hkY _ (by simp))
  have g6 := FrmIs.off f6 b8 (fun a h h0 => by have := K6.out a h h0; omega) (hkY _ (by simp))
  have HY := Lib.hid hY
  clear con hb A1 HW k5 k6 hba hY f5 f6 bx
  go_wp2
  rw [HY.out]
  refine bodyPost_ret (ret_lab rfl _ _ w.heap.size _ rfl bY rfl) rfl ?_
  exact ⟨q5, n5, c5, q6, n6, c6, rfl, ⟨_, _, _, _, _, _, rfl, g5, g6⟩, A6⟩

end Go.Proofs.YtpabhppghljipaaGreatDoor.Lbl

namespace Go.Proofs.YtpabhppghljipaaGreatDoor.Lbl
open Go.RowKit Go.Shelf Go.Sort Url Org Cls Frm
attribute [local go_sem] Oper.semAt_some
set_option linter.unusedVariables false

/-- Block B holds the cells of a label of the document's. -/
def RB (B : Nat) (cs : Array Value) (X : World) : Prop := X.heap[B]? = some (.cells cs 35 (0, 0))
end Go.Proofs.YtpabhppghljipaaGreatDoor.Lbl

namespace Go.Proofs.YtpabhppghljipaaGreatDoor.Lbl
open Go.RowKit Go.Shelf Go.Sort Url Org Cls Frm
attribute [local go_sem] Oper.semAt_some
set_option linter.unusedVariables false

end Go.Proofs.YtpabhppghljipaaGreatDoor.Lbl

namespace Go.Proofs.YtpabhppghljipaaGreatDoor.Lbl
open Go.RowKit Go.Shelf Go.Sort Url Org Cls Frm
attribute [local go_sem] Oper.semAt_some
set_option linter.unusedVariables false

end Go.Proofs.YtpabhppghljipaaGreatDoor.Lbl

namespace Go.Proofs.YtpabhppghljipaaGreatDoor.Lbl
open Go.RowKit Go.Shelf Go.Sort Url Org Cls Frm
attribute [local go_sem] Oper.semAt_some
set_option linter.unusedVariables false

end Go.Proofs.YtpabhppghljipaaGreatDoor.Lbl

namespace Go.Proofs.YtpabhppghljipaaGreatDoor.Prv
open Go.RowKit Go.Shelf Go.Sort Url Org Cls Frm Lbl
attribute [local go_sem] Oper.semAt_some
set_option linter.unusedVariables false

theorem less_few (f g : List (List (List UInt8))) : (lessF f g).length ≤ f.length := List.length_filter_le _ _

end Go.Proofs.YtpabhppghljipaaGreatDoor.Prv

namespace Go.Proofs.YtpabhppghljipaaGreatDoor.Prv
open Go.RowKit Go.Shelf Go.Sort Url Org Cls Frm Lbl
attribute [local go_sem] Oper.semAt_some
set_option linter.unusedVariables false

theorem by_less (p : List (List (List UInt8))) (l o : Lab) : flowsBy p l o = (impB o.s (lessF l.s p) && impB l.i (lessF o.i p)) := by
  unfold flowsBy
  rw [less_imp, less_imp]

set_option maxRecDepth 100000 in
set_option maxHeartbeats 4000000 in
theorem Own_any (p : List UInt8) (w : World) (hl : p.length ≤ 1300) (hG : Gl w) :
    Calls Tryz.prog 30 #[.string ⟨p.toArray⟩] w (FrmOut (singleR p) w) := by
  obtain ⟨W1, hW1⟩ : ∃ W1, w.alloc (.cells #[.slice none 0 0] 26) = W1 := ⟨_, rfl⟩
  have A1 : Below w.heap.size w W1 := hW1 ▸ below_alloc _
  have b1 : Boxed W1 w.heap.size 26 (.slice none 0 0) := hW1 ▸ Boxed.new w _ _
  have con := Single_any p W1 hl (hG.on A1)
  have HW1 := Lib.hid hW1
  clear hW1 hG
  go_enter Tryz.func30, Tryz.ntmps30
  go_wp2_with fail
  rw [HW1.out]
  refine con.mono ?_
  rintro e w2 ⟨q, n, c, rfl, f, k, hb⟩
  have b2 := (Keep.of_below hb).boxed b1 b1.lt
  have A2 := A1.trans (hb.mono A1.size)
  have kf := b2.frozen
  have kc := b2.cell
  have hl1 := b1.lt
  have f3 := f.set (u' := .slice q n c) b2 (fun x h => by cases h) (fun a ha => by have := k a ha; omega)
  have b3 := b2.set (.slice q n c)
  have A3 := A2.setCell (p := ⟨w.heap.size, 0, none⟩) (Nat.le_refl _) (.slice q n c)
  have K := Lib.hid (show ∀ a, q = some a → w.heap.size ≤ a.block from fun a ha => Nat.le_trans A1.size (k a ha))
  clear con hb k f
  go_wp2
  refine bodyPost_ret (ret_frm2 rfl _ _ w.heap.size _ rfl b3) rfl ?_
  exact ⟨q, n, c, rfl, f3, K.out, A3⟩

theorem LB.at2 (w : World) (o : Obj) (cs : Array Value) : LB (w.heap.size + 1) cs ((w.alloc o).alloc (.cells cs 29)) := by
  have := LB.new (w.alloc o) cs
  rw [World.size_alloc] at this
  exact this
theorem LB.at3 (w : World) (o o' : Obj) (cs : Array Value) : LB (w.heap.size + 2) cs (((w.alloc o).alloc o').alloc (.cells cs 29)) := by
  have := LB.new ((w.alloc o).alloc o') cs
  rw [World.size_alloc, World.size_alloc] at this
  exact this

set_option maxRecDepth 100000 in
set_option maxHeartbeats 16000000 in
theorem together_any (v1 v2 v3 : Value) (f p g : List (List (List UInt8))) (w : World) (h1 : FrmIs w v1 f) (h2 : FrmIs w v2 p) (h3 : FrmIs w v3 g) (lf : f.length ≤ 1000) (lp : p.length ≤ 1000) (lg : g.length ≤ 1000) :
    Calls Tryz.prog 37 #[v1, v2, v3] w fun e w' => e = .returned (.bool (impB f (lessF g p))) ∧ Below w.heap.size w w' := by
  obtain ⟨q1, n1, c1, rfl⟩ := frm_form h1
  obtain ⟨q2, n2, c2, rfl⟩ := frm_form h2
  obtain ⟨q3, n3, c3, rfl⟩ := frm_form h3
  obtain ⟨W, hW⟩ : ∃ W, ((w.alloc (.cells #[.slice q1 n1 c1] 26)).alloc (.cells #[.slice q2 n2 c2] 26)).alloc (.cells #[.slice q3 n3 c3] 26) = W := ⟨_, rfl⟩
  have A0 : Below w.heap.size w W := hW ▸ (((Below.refl _ w).alloc (Nat.le_refl _) _).alloc (by simp) _).alloc (by simp; omega) _
  have b0 : Boxed W w.heap.size 26 (.slice q1 n1 c1) := hW ▸ ((Boxed.new w _ _).alloc _).alloc _
  have b1 : Boxed W (w.heap.size + 1) 26 (.slice q2 n2 c2) := by
    have := (Boxed.new (w.alloc (.cells #[.slice q1 n1 c1] 26)) 26 (.slice q2 n2 c2)).alloc (.cells #[.slice q3 n3 c3] 26)
    rw [World.size_alloc] at this
    exact hW ▸ this
  have b2 : Boxed W (w.heap.size + 2) 26 (.slice q3 n3 c3) := by
    have := Boxed.new ((w.alloc (.cells #[.slice q1 n1 c1] 26)).alloc (.cells #[.slice q2 n2 c2] 26)) 26 (.slice q3 n3 c3)
    rw [World.size_alloc, World.size_alloc] at this
    exact hW ▸ this
  have HW := Lib.hid hW
  clear hW
  obtain ⟨W2, hW2⟩ : ∃ Z, W.drew = Z := ⟨_, rfl⟩
  have hd : Below W.heap.size W W2 := hW2 ▸ ⟨rfl, rfl, rfl, Nat.le_refl _, fun _ _ => rfl⟩
  have A := A0.trans (hd.mono A0.size)
  replace b0 := (Keep.of_below hd).boxed b0 b0.lt
  replace b1 := (Keep.of_below hd).boxed b1 b1.lt
  replace b2 := (Keep.of_below hd).boxed b2 b2.lt
  have HW2 := Lib.hid hW2
  clear hW2 hd A0
  have HL := Lib.hid (fun X (hb : Below w.heap.size w X) => Less_any _ _ g p X (h3.below hb) (h2.below hb) (by omega) (by omega))
  have HI := Lib.hid (fun X v (hb : Below w.heap.size w X) (hv : FrmIs X v (lessF g p)) => Frm.Implies_any _ _ f (lessF g p) X (h1.below hb) hv (by omega) (by have := less_few g p; omega))
  clear h1 h2 h3 lf lp lg
  generalize impB f (lessF g p) = R at *
  generalize lessF g p = f1 at *
  have x0 := b0.cell
  have x1 := b1.cell
  have x2 := b2.cell
  go_enter Tryz.func37, Tryz.ntmps37
  go_wp2_with fail
  rw [HW.out]
  refine pregion_any (fun X => X.cell? ⟨w.heap.size, 0, none⟩ = some (.slice q1 n1 c1) ∧ X.cell? ⟨w.heap.size + 1, 0, none⟩ = some (.slice q2 n2 c2) ∧ X.cell? ⟨w.heap.size + 2, 0, none⟩ = some (.slice q3 n3 c3)) (by kernel_rfl) ?_
  rw [HW2.out]
  refine wpAnyH_take (i := 0) (v := (.agg #[.slice q1 n1 c1])) rfl (by kernel_rfl) (by kernel_rfl) (by kernel_rfl) (fun _ _ _ h => h) (.inl ⟨by kernel_rfl, ?_⟩) ⟨x0, x1, x2⟩ ?_
  · rintro w ⟨h1, h2, h3⟩; go_simp <;> omega
  refine plist #[true, false, false, false, false, false] (by kernel_rfl) ?_
  refine wpAnyH_take (i := 1) (v := (.agg #[.slice q3 n3 c3])) rfl (by kernel_rfl) (by kernel_rfl) (by kernel_rfl) (fun _ _ _ h => h) (.inl ⟨by kernel_rfl, ?_⟩) ⟨x0, x1, x2⟩ ?_
  · rintro w ⟨h1, h2, h3⟩; go_simp <;> omega
  refine plist #[true, true, false, false, false, false] (by kernel_rfl) ?_
  refine wpAnyH_take (i := 2) (v := (.agg #[.slice q2 n2 c2])) rfl (by kernel_rfl) (by kernel_rfl) (by kernel_rfl) (fun _ _ _ h => h) (.inl ⟨by kernel_rfl, ?_⟩) ⟨x0, x1, x2⟩ ?_
  · rintro w ⟨h1, h2, h3⟩; go_simp <;> omega
  refine plist #[true, true, true, false, false, false] (by kernel_rfl) ?_
  have con := HL.out _ A
  refine pone 3 (by kernel_rfl) rfl fun K hK => ?_
  go_simp
  refine con.mono ?_
  rintro e w3 ⟨q5, n5, c5, rfl, F1, _, hb⟩
  have A2 := A.trans (hb.mono A.size)
  clear A
  have A := A2
  clear A2
  replace b0 := (Keep.of_below hb).boxed b0 b0.lt
  replace b1 := (Keep.of_below hb).boxed b1 b1.lt
  replace b2 := (Keep.of_below hb).boxed b2 b2.lt
  replace x0 := b0.cell
  replace x1 := b1.cell
  replace x2 := b2.cell
  clear con hb HL
  refine hK _ _ ⟨x0, x1, x2⟩ ?_
  clear hK K
  refine plist #[true, true, true, true, false, false] (by kernel_rfl) ?_
  have con := HI.out _ _ A F1
  refine pone 4 (by kernel_rfl) rfl fun K hK => ?_
  go_simp
  refine con.mono ?_
  rintro e w4 ⟨rfl, hb⟩
  have A2 := A.trans (hb.mono A.size)
  clear A
  have A := A2
  clear A2
  replace b0 := (Keep.of_below hb).boxed b0 b0.lt
  replace b1 := (Keep.of_below hb).boxed b1 b1.lt
  replace b2 := (Keep.of_below hb).boxed b2 b2.lt
  replace x0 := b0.cell
  replace x1 := b1.cell
  replace x2 := b2.cell
  clear con hb HI F1
  refine hK _ _ ⟨x0, x1, x2⟩ ?_
  clear hK K
  refine plist #[true, true, true, true, true, false] (by kernel_rfl) ?_
  refine pone 5 (by kernel_rfl) rfl fun K hK => ?_
  go_simp
  refine hK _ _ ⟨x0, x1, x2⟩ ?_
  clear hK K
  refine pdone (by kernel_rfl) ?_ _
  go_wp2
  go_ret
  exact ⟨rfl, A⟩

set_option maxRecDepth 100000 in
set_option maxHeartbeats 16000000 in
theorem Flows_any (vp v1 v2 : Value) (p : List (List (List UInt8))) (l o : Lab) (w : World) (hp : FrmIs w vp p) (h1 : LabIs w v1 l) (h2 : LabIs w v2 o) (fp : p.length ≤ 16) (fl : Few l) (fo : Few o) :
    Calls Tryz.prog 15 #[vp, v1, v2] w fun e w' => e = .returned (.bool (flowsBy p l o)) ∧ Below w.heap.size w w' := by
  obtain ⟨qp, np, cp, rfl⟩ := frm_form hp
  obtain ⟨q1, n1, c1, q2, n2, c2, rfl, s1, i1⟩ := h1
  obtain ⟨q3, n3, c3, q4, n4, c4, rfl, s2, i2⟩ := h2
  obtain ⟨W, hW⟩ : ∃ W, ((w.alloc (.cells #[.slice qp np cp] 26)).alloc (.cells #[.slice q1 n1 c1, .slice q2 n2 c2] 29)).alloc (.cells #[.slice q3 n3 c3, .slice q4 n4 c4] 29) = W := ⟨_, rfl⟩
  have A0 : Below w.heap.size w W := hW ▸ (((Below.refl _ w).alloc (Nat.le_refl _) _).alloc (by simp) _).alloc (by simp; omega) _
  have bP : Boxed W w.heap.size 26 (.slice qp np cp) := hW ▸ ((Boxed.new w _ _).alloc _).alloc _
  have b0 : LB (w.heap.size + 1) #[.slice q1 n1 c1, .slice q2 n2 c2] W := hW ▸ (LB.at2 w _ _).on (below_alloc _)
  have b1 : LB (w.heap.size + 2) #[.slice q3 n3 c3, .slice q4 n4 c4] W := hW ▸ LB.at3 w _ _ _
  have HW := Lib.hid hW
  clear hW
  have HT1 := Lib.hid (fun X (hb : Below w.heap.size w X) => together_any _ _ _ o.s p l.s X (s2.below hb) (hp.below hb) (s1.below hb) (by have := fo.1; omega) (by omega) (by have := fl.1; omega))
  have HT2 := Lib.hid (fun X (hb : Below w.heap.size w X) => together_any _ _ _ l.i p o.i X (i1.below hb) (hp.below hb) (i2.below hb) (by have := fl.2; omega) (by omega) (by have := fo.2; omega))
  have HF := Lib.hid (by_less p l o)
  generalize flowsBy p l o = FB at *
  obtain ⟨P1, hP1⟩ : ∃ b, impB o.s (lessF l.s p) = b := ⟨_, rfl⟩
  obtain ⟨P2, hP2⟩ : ∃ b, impB l.i (lessF o.i p) = b := ⟨_, rfl⟩
  rw [hP1] at HT1 HF
  rw [hP2] at HT2 HF
  clear hP1 hP2 s1 i1 s2 i2 fl fo hp fp
  have xP := bP.cell
  have x0 := b0.box 0 _ rfl
  have x1 := b0.box 1 _ rfl
  have y0 := b1.box 0 _ rfl
  have y1 := b1.box 1 _ rfl
  have con := HT1.out _ A0
  go_enter Tryz.func15, Tryz.ntmps15
  go_wp2_with fail
  rw [HW.out]
  refine con.mono ?_
  rintro e w2 ⟨rfl, hb⟩
  have A := A0.trans (hb.mono A0.size)
  replace bP := (Keep.of_below hb).boxed bP bP.lt
  replace b0 := b0.on hb
  replace b1 := b1.on hb
  replace xP := bP.cell
  replace x0 := b0.box 0 _ rfl
  replace x1 := b0.box 1 _ rfl
  replace y0 := b1.box 0 _ rfl
  replace y1 := b1.box 1 _ rfl
  clear con hb A0 HW HT1
  cases P1 with
  | false =>
    clear HT2
    go_wp2
    go_ret
    exact ⟨by rw [HF.out]; rfl, A⟩
  | true =>
    have con := HT2.out _ A
    go_wp2_with fail
    refine con.mono ?_
    rintro e w3 ⟨rfl, hb⟩
    have A3 := A.trans (hb.mono A.size)
    clear con hb x0 x1 y0 y1 xP b0 b1 bP A HT2
    go_wp2
    go_ret
    exact ⟨by rw [HF.out]; simp, A3⟩

end Go.Proofs.YtpabhppghljipaaGreatDoor.Prv

namespace Go.Proofs.YtpabhppghljipaaGreatDoor.Prv
open Go.RowKit Go.Shelf Go.Sort Url Org Cls Frm Lbl
attribute [local go_sem] Oper.semAt_some
set_option linter.unusedVariables false

/-- A box that holds a formula. -/
def FX (b : Nat) (q : Option Addr) (n c : Nat) (f : List (List (List UInt8))) (X : World) : Prop := Boxed X b 26 (.slice q n c) ∧ FrmIs X (.agg #[.slice q n c]) f
theorem FX.on {b : Nat} {q : Option Addr} {n c : Nat} {f : List (List (List UInt8))} {X Y : World} (h : FX b q n c f X) (hb : Below X.heap.size X Y) : FX b q n c f Y := ⟨(Keep.of_below hb).boxed h.1 h.1.lt, h.2.below hb⟩
theorem FX.new {q : Option Addr} {n c : Nat} {f : List (List (List UInt8))} {X : World} (h : FrmIs X (.agg #[.slice q n c]) f) : FX X.heap.size q n c f (X.alloc (.cells #[.slice q n c] 26)) := ⟨Boxed.new X _ _, h.below (below_alloc _)⟩
theorem FX.c0 {b : Nat} {q : Option Addr} {n c : Nat} {f : List (List (List UInt8))} {X : World} (h : FX b q n c f X) : X.cell? ⟨b, 0, none⟩ = some (.slice q n c) := h.1.cell
theorem single_of (p : List UInt8) (hp : prinB p = true) (h1 : sortR [p] = [p]) (h2 : redL [[p]] = [[p]]) : singleR p = .inr [[p]] := by
  have hc : ofC [p] = .inr [p] := by
    unfold ofC
    rw [if_pos (by simp [hp]), h1, if_pos (by simp)]
  unfold singleR
  rw [hc]
  show ofF _ = _
  unfold ofF
  rw [h2, if_pos (by simp)]
theorem single_a : singleR liveA = .inr [[liveA]] := single_of liveA live_a (by decide +kernel) (by decide +kernel)
theorem single_b : singleR liveB = .inr [[liveB]] := single_of liveB live_b (by decide +kernel) (by decide +kernel)
theorem own_live (w : World) (hG : Gl w) : Calls Tryz.prog 30 #[.string ⟨#[104, 116, 116, 112, 58, 47, 47, 97]⟩] w fun e w' => ∃ q n c, e = .returned (.tuple #[.agg #[.slice q n c], .int .i64 0]) ∧ FrmIs w' (.agg #[.slice q n c]) [[liveA]] ∧ Below w.heap.size w w' := by
  have con := Own_any liveA w (by decide) hG
  rw [single_a] at con
  refine con.mono ?_
  rintro e w' ⟨q, n, c, rfl, f, _, hb⟩
  exact ⟨q, n, c, rfl, f, hb⟩
theorem of_live (p : List UInt8) (w : World) (hG : Gl w) (hl : p.length ≤ 1300) (h : singleR p = .inr [[p]]) : Calls Tryz.prog 31 #[.string ⟨p.toArray⟩] w fun e w' => ∃ q1 n1 c1 q2 n2 c2, e = .returned (.tuple #[.agg #[.slice q1 n1 c1, .slice q2 n2 c2], .int .i64 0]) ∧ LabIs w' (.agg #[.slice q1 n1 c1, .slice q2 n2 c2]) ⟨[[p]], []⟩ ∧ Below w.heap.size w w' := by
  have con := Lbl.Of_any p w hl hG
  rw [show oneL p = .inr ⟨[[p]], []⟩ by unfold oneL; rw [h]] at con
  refine con.mono ?_
  rintro e w' ⟨q1, n1, c1, q2, n2, c2, rfl, f1, f2, _, _, hb⟩
  exact ⟨q1, n1, c1, q2, n2, c2, rfl, ⟨_, _, _, _, _, _, rfl, f1, f2⟩, hb⟩
theorem flows_a : flowsBy [[liveA]] ⟨[[liveA]], []⟩ ⟨[], []⟩ = true := by decide +kernel
theorem flows_b : flowsBy [[liveA]] ⟨[[liveB]], []⟩ ⟨[], []⟩ = false := by decide +kernel

set_option maxRecDepth 100000 in
set_option maxHeartbeats 16000000 in
theorem lives_any (w : World) (hG : Gl w) : Calls Tryz.prog 8 #[] w fun e w' => e = .returned (.bool true) ∧ Below w.heap.size w w' := by
  have con := own_live w hG
  have HG := Lib.hid hG
  clear hG
  go_enter Tryz.func8, Tryz.ntmps8
  go_wp2_with fail
  refine con.mono ?_
  rintro e X1 ⟨qp, np, cp, rfl, sp, B_1⟩
  clear con
  obtain ⟨bp, hbp⟩ : ∃ b, X1.heap.size = b := ⟨_, rfl⟩
  obtain ⟨X2, hX2⟩ : ∃ Z, X1.alloc (.cells #[.slice qp np cp] 26) = Z := ⟨_, rfl⟩
  have hb : Below X1.heap.size X1 X2 := by rw [← hX2]; exact below_alloc _
  have FP : FX bp qp np cp [[liveA]] X2 := by rw [← hX2, ← hbp]; exact FX.new sp
  have B_2 := B_1.trans (hb.mono B_1.size)
  have con := of_live liveA X2 (HG.out.on B_2) (by decide) single_a
  have HX2 := Lib.hid hX2
  have HBP := Lib.hid hbp
  clear hX2 hbp sp hb B_1
  go_wp2_with fail
  rewrite [HX2.out, HBP.out]
  refine con.mono ?_
  rintro e X3 ⟨q1, n1, c1, q2, n2, c2, rfl, s1, hb⟩
  have B_3 := B_2.trans (hb.mono B_2.size)
  replace FP := FP.on hb
  clear con hb B_2 HX2 HBP
  obtain ⟨b1, hb1⟩ : ∃ b, X3.heap.size = b := ⟨_, rfl⟩
  obtain ⟨X4, hX4⟩ : ∃ Z, X3.alloc (.cells #[.slice q1 n1 c1, .slice q2 n2 c2] 29) = Z := ⟨_, rfl⟩
  have hb : Below X3.heap.size X3 X4 := by rw [← hX4]; exact below_alloc _
  have L1 : LX b1 q1 n1 c1 q2 n2 c2 ⟨[[liveA]], []⟩ X4 := by rw [← hX4, ← hb1]; exact LX.new s1
  have B_4 := B_3.trans (hb.mono B_3.size)
  replace FP := FP.on hb
  have con := of_live liveB X4 (HG.out.on B_4) (by decide) single_b
  have HX4 := Lib.hid hX4
  have HB1 := Lib.hid hb1
  clear hX4 hb1 s1 hb B_3
  go_wp2_with fail
  rewrite [HX4.out, HB1.out]
  refine con.mono ?_
  rintro e X5 ⟨q3, n3, c3, q4, n4, c4, rfl, s2, hb⟩
  have B_5 := B_4.trans (hb.mono B_4.size)
  replace FP := FP.on hb
  replace L1 := L1.on hb
  clear con hb B_4 HX4 HB1
  obtain ⟨b2, hb2⟩ : ∃ b, X5.heap.size = b := ⟨_, rfl⟩
  obtain ⟨X6, hX6⟩ : ∃ Z, X5.alloc (.cells #[.slice q3 n3 c3, .slice q4 n4 c4] 29) = Z := ⟨_, rfl⟩
  have hb : Below X5.heap.size X5 X6 := by rw [← hX6]; exact below_alloc _
  have L2 : LX b2 q3 n3 c3 q4 n4 c4 ⟨[[liveB]], []⟩ X6 := by rw [← hX6, ← hb2]; exact LX.new s2
  have A := B_5.trans (hb.mono B_5.size)
  replace FP := FP.on hb
  replace L1 := L1.on hb
  have HX6 := Lib.hid hX6
  have HB2 := Lib.hid hb2
  clear hX6 hb2 s2 hb B_5 HG
  go_wp2_with fail
  rewrite [HX6.out, HB2.out]
  clear HX6 HB2
  refine pregion_any (fun X => X.cell? ⟨bp, 0, none⟩ = some (.slice qp np cp) ∧ X.cell? ⟨b1, 0, none⟩ = some (.slice q1 n1 c1) ∧ X.cell? ⟨b1, 1, none⟩ = some (.slice q2 n2 c2) ∧ X.cell? ⟨b2, 0, none⟩ = some (.slice q3 n3 c3) ∧ X.cell? ⟨b2, 1, none⟩ = some (.slice q4 n4 c4)) (by kernel_rfl) ?_
  have hb : Below X6.heap.size X6 X6.drew := ⟨rfl, rfl, rfl, Nat.le_refl _, fun _ _ => rfl⟩
  obtain ⟨X7, hXd⟩ : ∃ Z, X6.drew = Z := ⟨_, rfl⟩
  rw [hXd] at hb ⊢
  have A2 := A.trans (hb.mono A.size)
  clear A
  have A := A2
  clear A2
  replace FP := FP.on hb
  replace L1 := L1.on hb
  replace L2 := L2.on hb
  clear hb hXd
  refine pone 0 (by kernel_rfl) rfl fun K hK => ?_
  go_simp
  refine hK _ _ ⟨FP.c0, L1.c0, L1.c1, L2.c0, L2.c1⟩ ?_
  clear hK K
  refine plist #[true, false, false, false, false, false, false, false, false, false, false, false, false, false, false, false] (by kernel_rfl) ?_
  refine pone 1 (by kernel_rfl) rfl fun K hK => ?_
  go_simp
  refine hK _ _ ⟨FP.c0, L1.c0, L1.c1, L2.c0, L2.c1⟩ ?_
  clear hK K
  refine plist #[true, true, false, false, false, false, false, false, false, false, false, false, false, false, false, false] (by kernel_rfl) ?_
  refine pone 2 (by kernel_rfl) rfl fun K hK => ?_
  go_simp
  refine hK _ _ ⟨FP.c0, L1.c0, L1.c1, L2.c0, L2.c1⟩ ?_
  clear hK K
  refine plist #[true, true, true, false, false, false, false, false, false, false, false, false, false, false, false, false] (by kernel_rfl) ?_
  refine wpAnyH_take (i := 3) (v := (.agg #[.slice qp np cp])) rfl (by kernel_rfl) (by kernel_rfl) (by kernel_rfl) (fun _ _ _ h => h) (.inl ⟨by kernel_rfl, ?_⟩) ⟨FP.c0, L1.c0, L1.c1, L2.c0, L2.c1⟩ ?_
  · rintro w ⟨h1, h2, h3, h4, h5⟩; go_simp <;> omega
  refine plist #[true, true, true, true, false, false, false, false, false, false, false, false, false, false, false, false] (by kernel_rfl) ?_
  refine wpAnyH_take (i := 4) (v := (.agg #[.slice q1 n1 c1, .slice q2 n2 c2])) rfl (by kernel_rfl) (by kernel_rfl) (by kernel_rfl) (fun _ _ _ h => h) (.inl ⟨by kernel_rfl, ?_⟩) ⟨FP.c0, L1.c0, L1.c1, L2.c0, L2.c1⟩ ?_
  · rintro w ⟨h1, h2, h3, h4, h5⟩; go_simp <;> omega
  refine plist #[true, true, true, true, true, false, false, false, false, false, false, false, false, false, false, false] (by kernel_rfl) ?_
  have con := Open_any X7
  refine pone 5 (by kernel_rfl) rfl fun K hK => ?_
  go_simp
  refine con.mono ?_
  rintro e X8 ⟨v8, rfl, o8, hb⟩
  have A2 := A.trans (hb.mono A.size)
  clear A
  have A := A2
  clear A2
  replace FP := FP.on hb
  replace L1 := L1.on hb
  replace L2 := L2.on hb
  clear con hb 
  refine hK _ _ ⟨FP.c0, L1.c0, L1.c1, L2.c0, L2.c1⟩ ?_
  clear hK K
  refine plist #[true, true, true, true, true, true, false, false, false, false, false, false, false, false, false, false] (by kernel_rfl) ?_
  have con := Flows_any _ _ _ [[liveA]] ⟨[[liveA]], []⟩ ⟨[], []⟩ X8 FP.2 L1.2 o8 (by decide) ⟨by decide, by decide⟩ ⟨by decide, by decide⟩
  rw [flows_a] at con
  refine pone 6 (by kernel_rfl) rfl fun K hK => ?_
  go_simp
  refine con.mono ?_
  rintro e X9 ⟨rfl, hb⟩
  have A2 := A.trans (hb.mono A.size)
  clear A
  have A := A2
  clear A2
  replace FP := FP.on hb
  replace L1 := L1.on hb
  replace L2 := L2.on hb
  clear con hb o8
  refine hK _ _ ⟨FP.c0, L1.c0, L1.c1, L2.c0, L2.c1⟩ ?_
  clear hK K
  refine plist #[true, true, true, true, true, true, true, false, false, false, false, false, false, false, false, false] (by kernel_rfl) ?_
  refine pone 7 (by kernel_rfl) rfl fun K hK => ?_
  go_simp
  refine hK _ _ ⟨FP.c0, L1.c0, L1.c1, L2.c0, L2.c1⟩ ?_
  clear hK K
  refine plist #[true, true, true, true, true, true, true, true, false, false, false, false, false, false, false, false] (by kernel_rfl) ?_
  refine pone 8 (by kernel_rfl) rfl fun K hK => ?_
  go_simp
  refine hK _ _ ⟨FP.c0, L1.c0, L1.c1, L2.c0, L2.c1⟩ ?_
  clear hK K
  refine plist #[true, true, true, true, true, true, true, true, true, false, false, false, false, false, false, false] (by kernel_rfl) ?_
  refine wpAnyH_take (i := 9) (v := (.agg #[.slice qp np cp])) rfl (by kernel_rfl) (by kernel_rfl) (by kernel_rfl) (fun _ _ _ h => h) (.inl ⟨by kernel_rfl, ?_⟩) ⟨FP.c0, L1.c0, L1.c1, L2.c0, L2.c1⟩ ?_
  · rintro w ⟨h1, h2, h3, h4, h5⟩; go_simp <;> omega
  refine plist #[true, true, true, true, true, true, true, true, true, true, false, false, false, false, false, false] (by kernel_rfl) ?_
  refine wpAnyH_take (i := 10) (v := (.agg #[.slice q3 n3 c3, .slice q4 n4 c4])) rfl (by kernel_rfl) (by kernel_rfl) (by kernel_rfl) (fun _ _ _ h => h) (.inl ⟨by kernel_rfl, ?_⟩) ⟨FP.c0, L1.c0, L1.c1, L2.c0, L2.c1⟩ ?_
  · rintro w ⟨h1, h2, h3, h4, h5⟩; go_simp <;> omega
  refine plist #[true, true, true, true, true, true, true, true, true, true, true, false, false, false, false, false] (by kernel_rfl) ?_
  have con := Open_any X9
  refine pone 11 (by kernel_rfl) rfl fun K hK => ?_
  go_simp
  refine con.mono ?_
  rintro e X10 ⟨v10, rfl, o10, hb⟩
  have A2 := A.trans (hb.mono A.size)
  clear A
  have A := A2
  clear A2
  replace FP := FP.on hb
  replace L1 := L1.on hb
  replace L2 := L2.on hb
  clear con hb 
  refine hK _ _ ⟨FP.c0, L1.c0, L1.c1, L2.c0, L2.c1⟩ ?_
  clear hK K
  refine plist #[true, true, true, true, true, true, true, true, true, true, true, true, false, false, false, false] (by kernel_rfl) ?_
  have con := Flows_any _ _ _ [[liveA]] ⟨[[liveB]], []⟩ ⟨[], []⟩ X10 FP.2 L2.2 o10 (by decide) ⟨by decide, by decide⟩ ⟨by decide, by decide⟩
  rw [flows_b] at con
  refine pone 12 (by kernel_rfl) rfl fun K hK => ?_
  go_simp
  refine con.mono ?_
  rintro e X11 ⟨rfl, hb⟩
  have A2 := A.trans (hb.mono A.size)
  clear A
  have A := A2
  clear A2
  replace FP := FP.on hb
  replace L1 := L1.on hb
  replace L2 := L2.on hb
  clear con hb o10
  refine hK _ _ ⟨FP.c0, L1.c0, L1.c1, L2.c0, L2.c1⟩ ?_
  clear hK K
  refine plist #[true, true, true, true, true, true, true, true, true, true, true, true, true, false, false, false] (by kernel_rfl) ?_
  refine pone 13 (by kernel_rfl) rfl fun K hK => ?_
  go_simp
  refine hK _ _ ⟨FP.c0, L1.c0, L1.c1, L2.c0, L2.c1⟩ ?_
  clear hK K
  refine plist #[true, true, true, true, true, true, true, true, true, true, true, true, true, true, false, false] (by kernel_rfl) ?_
  refine pone 14 (by kernel_rfl) rfl fun K hK => ?_
  go_simp
  refine hK _ _ ⟨FP.c0, L1.c0, L1.c1, L2.c0, L2.c1⟩ ?_
  clear hK K
  refine plist #[true, true, true, true, true, true, true, true, true, true, true, true, true, true, true, false] (by kernel_rfl) ?_
  refine pone 15 (by kernel_rfl) rfl fun K hK => ?_
  go_simp
  refine hK _ _ ⟨FP.c0, L1.c0, L1.c1, L2.c0, L2.c1⟩ ?_
  clear hK K
  refine pdone (by kernel_rfl) ?_ _
  go_wp2
  go_ret
  exact ⟨by first | rfl | simp, A⟩

end Go.Proofs.YtpabhppghljipaaGreatDoor.Prv

namespace Go.Proofs.YtpabhppghljipaaGreatDoor.Prv
open Go.RowKit Go.Shelf Go.Sort Url Org Cls Frm Lbl
set_option linter.unusedVariables false

theorem frm_ok (t : List UInt8) : FOk (frmV (parseF t)) := by
  cases h : parseF t with
  | inl e => exact always_ok
  | inr f => exact parseF_ok t f h
/-! ### set by set -/
end Go.Proofs.YtpabhppghljipaaGreatDoor.Prv
