/- The texts that these laws rest on, put together, part 5. Conditions: as each says. -/
import Derived.Test.YtedglpfdibamdaaGreatDoorBaseD
namespace Go.Proofs.YtedglpfdibamdaaGreatDoor.Pol
open Go.RowKit Go.Shelf Url Org Hdr
attribute [local go_sem] Oper.semAt_some
set_option linter.unusedVariables false
theorem info_sl : (Tryz.prog.info? 22).map (fun i => (i.zero, i.size, i.bytes)) = some (some (.slice none 0 0), 1, 24) := by kernel_rfl
abbrev TZ := C3 × List UInt8
def CoI (Bo : Nat) (RB : Nat → Prop) (W0 : World) (pre : List (List UInt8)) (Pv : Nat → Prop) (W : World) : Prop :=
  ∃ v, ∃ ls : List TZ, Boxed W Bo 148 v ∧ W.ownsRow W0.heap.size 22 1 v ls.length (ls.map fun z => vC z.1) ∧ (∀ z ∈ ls, RowC W (vC z.1) z.2 ∧ ∀ b, (vC z.1).ownBlock = some b → ¬ Pv b ∧ W0.heap.size ≤ b ∧ v.ownBlock ≠ some b) ∧ pre = ls.map Prod.snd ∧
    (∀ b, Pv b → W0.heap.size ≤ b) ∧ (∀ b, v.ownBlock = some b → ¬ Pv b) ∧ Keep RB W0 W
theorem CoI_abide (Bo : Nat) (RB : Nat → Prop) (W0 : World) (hBo : Bo < W0.heap.size) (hRB : ∀ b, RB b → b < W0.heap.size) : Abide (CoI Bo RB W0) := by
  rintro pre Pv Pv' A B ⟨v, ls, h1, h2, hz, hc, h3, h5, h6⟩ hk hp
  have hs := h6.size
  refine ⟨v, ls, hk.boxed h1 (fun h => by have := h3 _ h; omega), hk.row h2 h5, fun z hz' => ⟨(hz z hz').1.keep hk (fun b hb => ((hz z hz').2 b hb).1), fun b hb => ⟨fun hp' => ?_, ((hz z hz').2 b hb).2⟩⟩, hc, fun b hb => ?_, fun b hb hp' => ?_, h6.trans (hk.mono fun b _ hb hpb => by have := h3 b hpb; have := hRB b hb; omega)⟩
  · rcases (hp _ hp').1 with h | h
    · exact ((hz z hz').2 b hb).1 h
    · have := (hz z hz').1.lt b hb; omega
  · rcases (hp b hb).1 with h | h
    · exact h3 b h
    · omega
  · rcases (hp _ hp').1 with h | h
    · exact h5 b hb h
    · have := (h2.lt b hb).2; omega
set_option maxRecDepth 100000 in
set_option maxHeartbeats 4000000 in
theorem AppendSeq_txt (gf : Nat) (lb : Array Value) (x : List (List UInt8)) (RB : Nat → Prop) (w : World) (eg : ∀ args w, (callFunc gf args).run Tryz.prog w = .ok (.enter gf args) w)
    (hi : IterC Tryz.prog gf lb TxtArg x RB w) (hRs : ∀ b, RB b → b < w.heap.size) (hN : x.length ≤ 1099511627776) :
    Calls Tryz.prog 117 #[.slice none 0 0, .func (.func gf) #[] lb] w fun e w' => ∃ v, ∃ ls : List TZ, e = .returned v ∧ w'.ownsRow w.heap.size 22 1 v ls.length (ls.map fun z => vC z.1) ∧ (∀ z ∈ ls, RowC w' (vC z.1) z.2) ∧ x = ls.map Prod.snd ∧ Below w.heap.size w w' := by
  obtain ⟨i0, hi0, hz0, hz1, hz2⟩ := info_parts info_sl
  refine (callsIn_wide (n := 1)).1 ?_
  refine callsIn_of_wp_marks Tryz.func117 rfl trivial ?_ rfl
  simp only [Tryz.ntmps117, List.size_toArray, List.length_cons, List.length_nil, Nat.reduceAdd, Nat.reduceSub, Array.replicate_succ, Array.replicate_zero, List.push_toArray, List.append_toArray, List.nil_append, List.cons_append]
  gi_wp2
  obtain ⟨W0, hW0⟩ : ∃ W0, w.alloc (.cells #[.slice none 0 0] 148) = W0 := ⟨_, rfl⟩
  have b0 : Boxed W0 w.heap.size 148 (.slice none 0 0) := by rw [← hW0]; exact Boxed.new w _ _
  have hB0 : Below w.heap.size w W0 := by rw [← hW0]; exact below_alloc _
  have hs0 : W0.heap.size = w.heap.size + 1 := by rw [← hW0]; simp
  rw [hW0]
  clear hW0
  have hRl : ∀ b, RB b → b < W0.heap.size := fun b hb => by have := hRs b hb; omega
  refine rf_law (gf := gf) (lb := lb) rfl eg hi ((Keep.of_below hB0).mono fun b _ hb => hRs b hb) hRl (fun x args G W h => by obtain ⟨v, rfl, _⟩ := h; rfl)
    (CoI w.heap.size (fun b => b < w.heap.size) W0) (fun _ _ _ _ => False) (CoI_abide _ _ _ (by omega) (fun b hb => by omega)) (fun _ _ _ _ _ _ h _ _ => h)
    ⟨_, [], b0, World.ownsRow_nil _ _ _ _, (fun z hz => by cases hz), rfl, (fun _ h => h.elim), (fun _ h => by cases h), Keep.refl _ _⟩ ?round ?done ?stop
  case round =>
    rintro ll pre t rest Pv G args Wr hll hxs ⟨v, ls, hbx, hrow, hzs, hpre, hge, hnv, hKW⟩ hPl hGl hPb hGP ⟨p, rfl, hp, rfl⟩
    obtain ⟨qx, cx, rfl⟩ := hp.form
    have hlen : pre.length + rest.length + 1 = x.length := by rw [hxs]; simp; omega
    have hll2 : ls.length = pre.length := by rw [hpre, List.length_map]
    have hpl : ls.length + 1 ≤ 1099511627776 := by omega
    clear hlen hll2
    gi_wp2
    refine ⟨Keep.refl _ _, fun W2 hk2 hs2 r hr => ?_⟩
    have hnP : ∀ b, b < W0.heap.size → ¬ Pv b := fun b hb h => by have := hge b h; omega
    have hk2' : Keep (fun b => ¬ Pv b) Wr W2 := hk2.mono fun b _ hb h => hb (h ▸ hPl)
    have gx : Keep (fun b => (Value.slice qx t.length cx).ownBlock = some b) Wr W2 := hk2.mono fun b _ hb h => hGl (h ▸ hb)
    replace hbx := hk2'.boxed hbx (hnP _ (by omega))
    replace hrow := hk2'.row hrow hnv
    replace hp := hp.keep gx (fun _ h => h)
    replace hzs : ∀ z ∈ ls, RowC W2 (vC z.1) z.2 ∧ ∀ b, (vC z.1).ownBlock = some b → ¬ Pv b ∧ W0.heap.size ≤ b ∧ v.ownBlock ≠ some b := fun z hz => ⟨(hzs z hz).1.keep hk2' (fun b hb => ((hzs z hz).2 b hb).1), (hzs z hz).2⟩
    have hK2 : Keep (fun b => b < w.heap.size) W0 W2 := hKW.trans (hk2'.mono fun b _ hb => hnP b (by omega))
    have hPl2 : ∀ b, Pv b → b < W2.heap.size := fun b hb => by rw [hs2]; exact hPb b hb
    have cB := hbx.cell
    have hszW := hK2.size
    clear hxs hr hk2 hk2' hs2 hKW gx hpre
    gi_wp2_with (gi_at_builtin; go_must (refine wpListIn_append_own_at _ rfl _ _ 148 rfl W0.heap.size 22 i0 (.slice none 0 0) 1 24 Tryz.underlying148 hi0 hz0 hz1 hz2 rfl (by decide) _ _ _ rfl (hrow.alloc _) ⟨W2.heap.size, 0, none⟩ 1 1 [.slice qx t.length cx] rfl rfl (cell_one_new _ _ _) (by simp [Value.oneCell']) (by unfold maxLen; omega) (by omega) (by simp; omega) ?_); intro v' w1 hown' hgrow _ hat; obtain ⟨g', cap', rfl⟩ := ownsRow_succ hown'; obtain ⟨hv1, hv2, hr2, hkk⟩ := appended_keep (S := fun b => b ≠ w.heap.size ∧ v.ownBlock ≠ some b) hbx (by decide) hrow (fun h => h.1 rfl) (fun b hb h => h.2 hb) hown' hgrow; have hc1 := hv1.cell; have hf1 := hv1.frozen)
    have hg : ∀ b, some g' = some b → v.ownBlock = some b ∨ W2.heap.size ≤ b := fun b hb => by
      rcases hat with h | h
      · exact .inl (h ▸ hb)
      · have h : some g' = some (W2.alloc (.cells #[.slice qx t.length cx] 22)).heap.size := h
        rw [hb] at h
        have := Option.some.inj h
        simp at this
        exact .inr (by omega)
    have hown5 : ∀ b, v.ownBlock = some b → W0.heap.size ≤ b ∧ b < W2.heap.size := fun b hb => hrow.lt b hb
    have hKS : ∀ S : Nat → Prop, (∀ b, S b → b ≠ w.heap.size ∧ v.ownBlock ≠ some b) → Keep S W2 (w1.setCell ⟨w.heap.size, 0, none⟩ (.slice (some ⟨g', 0, none⟩) (ls.length + 1) cap')) := fun S hS => hkk.mono fun b _ h => hS b h
    refine ⟨hKS _ (fun b hb => ?_), _, ls ++ [((qx, t.length, cx), t)], hv2, by simpa [vC] using hr2, fun z hz => ?_, by rw [List.map_append]; rfl, fun b hb => hge b hb.1, fun b hb hp => ?_, hK2.trans (hKS _ (fun b hb => ?_))⟩
    · rcases hb with h | h
      · have h2 := hRs b h
        exact ⟨by omega, fun e => by have := (hown5 b e).1; omega⟩
      · exact ⟨fun e => hnP b (by omega) h.1, fun e => hnv b e h.1⟩
    · rcases List.mem_append.1 hz with h | h
      · obtain ⟨k1, k2⟩ := hzs z h
        refine ⟨k1.keep (hKS (fun b => b ≠ w.heap.size ∧ v.ownBlock ≠ some b) (fun b hb => hb)) (fun b hb => ?_), fun b hb => ?_⟩
        · obtain ⟨j1, j2, j3⟩ := k2 b hb
          exact ⟨by omega, j3⟩
        · obtain ⟨j1, j2, j3⟩ := k2 b hb
          refine ⟨fun hp => j1 hp.1, j2, fun e => ?_⟩
          rcases hg b e with h | h
          · exact j3 h
          · have := k1.lt b hb; omega
      · rw [List.mem_singleton.1 h]
        have hb0 : ∀ b, (Value.slice qx t.length cx).ownBlock = some b → W0.heap.size ≤ b ∧ v.ownBlock ≠ some b ∧ b < W2.heap.size := fun b hb => ⟨hge b (hGP b hb), fun e => hnv b e (hGP b hb), hp.lt b hb⟩
        refine ⟨hp.keep (hKS (fun b => b ≠ w.heap.size ∧ v.ownBlock ≠ some b) (fun b hb => hb)) (fun b hb => ?_), fun b hb => ?_⟩
        · obtain ⟨j1, j2, j3⟩ := hb0 b hb
          exact ⟨by omega, j2⟩
        · obtain ⟨j1, j2, j3⟩ := hb0 b hb
          refine ⟨fun hp => hp.2 hb, j1, fun e => ?_⟩
          rcases hg b e with h | h
          · exact j2 h
          · omega
    · rcases hg b hb with h | h
      · exact hnv b h hp.1
      · have := hPl2 _ hp.1; omega
    · exact ⟨by omega, fun e => by have := (hown5 b e).1; omega⟩
  case done =>
    rintro D Pv Wd hD hPD hPl ⟨v, ls, hbx, hrow, hzs, hpre, hge, hnv, hKW⟩ hK
    have cB := hbx.cell
    gi_wp2
    have hB : Keep (fun b => b < w.heap.size) w Wd := (Keep.of_below hB0).trans hKW
    have hkD : Keep (fun b => ¬ Pv b) Wd (Wd.putObj D (.deferred none)) := Keep.putObj (S := fun b => ¬ Pv b) Wd D _ (fun h => h hPD)
    refine ⟨by simp, .inl ⟨_, _, rfl, run_takeDeferred hK, ?_⟩⟩
    refine ⟨_, results_tmp rfl _ _ _, v, ls, rfl, row_base (hkD.row hrow hnv) (by omega), fun z hz => (hzs z hz).1.keep hkD (fun b hb => ((hzs z hz).2 b hb).1), hpre, (hB.trans (Keep.putObj _ _ _ (by omega))).below (Nat.le_refl _)⟩
  case stop =>
    rintro D c pre rest Pv Wd _ _ _ _ h _
    exact h.elim
def TxsIn (w : World) (q : Option Addr) (n : Nat) (x : List (List UInt8)) : Prop :=
  x.length = n ∧ (0 < n → ∃ g o, q = some ⟨g, o, none⟩ ∧ g < w.heap.size ∧ ∀ i y, x[i]? = some y → ∃ q' c', w.cell? ⟨g, o + i, none⟩ = some (.slice q' y.length c') ∧ By w (.slice q' y.length c') y)
theorem Collect_txt (gf : Nat) (lb : Array Value) (x : List (List UInt8)) (RB : Nat → Prop) (w : World) (eg : ∀ args w, (callFunc gf args).run Tryz.prog w = .ok (.enter gf args) w)
    (hi : IterC Tryz.prog gf lb TxtArg x RB w) (hRs : ∀ b, RB b → b < w.heap.size) (hN : x.length ≤ 1099511627776) :
    Calls Tryz.prog 80 #[.func (.func gf) #[] lb] w fun e w' => ∃ q c, e = .returned (.slice q x.length c) ∧ TxsIn w' q x.length x ∧ (∀ a, q = some a → w.heap.size ≤ a.block) ∧ Below w.heap.size w w' := by
  have con := AppendSeq_txt gf lb x RB w eg hi hRs hN
  clear hi eg hRs
  go_enter Tryz.func80, Tryz.ntmps80
  go_wp2_with fail
  refine con.mono ?_
  rintro e w' ⟨v, ls, rfl, hrow, hz, hx, hb⟩
  go_wp2
  go_ret
  subst hx
  have hrow2 : w'.ownsRow w.heap.size 22 1 v ls.length (ls.map (fun z : TZ => vC z.1)) := hrow
  obtain ⟨q, c, rfl, _, _, hs, hbk⟩ := slIn_of_owns (enc := fun z : TZ => vC z.1) hrow2
  rw [List.length_map]
  refine ⟨q, c, rfl, ⟨by rw [List.length_map], fun h0 => ?_⟩, fun a ha => (hbk a ha).1, hb⟩
  obtain ⟨g, o, hq, hg, hc⟩ := hs.at h0
  refine ⟨g, o, hq, hg, fun i y hy => ?_⟩
  rw [List.getElem?_map] at hy
  obtain ⟨z, hzi, rfl⟩ := Option.map_eq_some_iff.1 hy
  have hr := hz z (List.mem_of_getElem? hzi)
  obtain ⟨q', c', he⟩ := hr.form
  have hcc := hc i z hzi
  rw [he] at hcc
  exact ⟨q', c', hcc, he ▸ hr.by⟩
end Go.Proofs.YtedglpfdibamdaaGreatDoor.Pol
namespace Go.Proofs.YtedglpfdibamdaaGreatDoor.Frm
open Go.RowKit Go.Shelf Go.Sort Url Org Cls
attribute [local go_sem] Oper.semAt_some
set_option linter.unusedVariables false
theorem keep_sortK {α : Type} [Inhabited α] (S : Nat → Prop) (enc : α → List Value) (k : Nat) (w : World) (blk off m : Nat) (dk : Array α) (os : Array Obj) (h : ¬ S blk) : Keep S w (sortWorldK enc k w blk off m dk os) :=
  ((keep_ahead S w m).trans (keep_putRow S id _ blk off _ h)).trans (keep_grow S _ os)
theorem flat_one {α : Type} [Inhabited α] (enc : α → Value) (d : Array α) (j : Nat) (h : j < d.size) : (flatK (fun x => [enc x]) 1 d)[j]! = enc d[j]! := by
  rw [get_flatK _ _ _ _ (by omega), Nat.div_one, Nat.mod_one]; rfl
theorem sort_all {α : Type} [Inhabited α] (d d' : Array α) (h : PermIn 0 d.size d d') : d'.toList.Perm d.toList := by
  have h1 := h.2.2
  rw [Array.extract_size, ← h.1, Array.extract_size] at h1
  exact h1
set_option maxRecDepth 100000 in
set_option maxHeartbeats 4000000 in
theorem sort_any (g : Nat) (cf : Cl → Cl → Int) (hO : SWO (ltOf cf)) (eg : ∀ args w, (callFunc g args).run Tryz.prog w = .ok (.enter g args) w)
    (hc : ∀ W z1 z2, ClAt W z1 → ClAt W z2 → Calls Tryz.prog g #[.agg #[encC z1], .agg #[encC z2]] W fun e w' => e = .returned (.int .i64 (cf z1 z2)) ∧ ∃ q os, w' = grow (W.drewN q) os)
    (w0 : World) (v : Value) (n : Nat) (zs : List Cl) (w : World) (h : w.ownsRow w0.heap.size 77 1 v n (zs.map encC)) (hz : ∀ z ∈ zs, ClAt w0 z) (hb0 : Below w0.heap.size w0 w) (hn : n ≤ 1099511627776) :
    Calls Tryz.prog 90 #[v, .func (.func g) #[] #[]] w fun e w' => e = .returned (.tuple #[]) ∧ ∃ (q : Option Addr) (c : Nat) (zs' : List Cl), v = .slice q n c ∧ (q = none → c = 0) ∧ zs'.Perm zs ∧ (∀ (i j : Nat) (x y : Cl), i < j → zs'[i]? = some x → zs'[j]? = some y → ¬ cf y x < 0) ∧ SlIn encC w' q n zs' ∧ Below w0.heap.size w w' := by
  by_cases hv : v = .slice none 0 0
  · subst hv
    have hl : zs = [] ∧ n = 0 := by
      have h1 := h.1
      rcases h.2 with ⟨_, h2⟩ | ⟨g, cap, cur, h2, _⟩
      · simp [h2] at h1
        exact ⟨h1, h2⟩
      · cases h2
    obtain ⟨rfl, rfl⟩ := hl
    exact (sortNone (.func (.func g) #[] #[]) w).mono fun e w' ⟨he, hw⟩ => ⟨he, none, 0, [], rfl, fun _ => rfl, List.Perm.refl _, by simp, SlIn.nil _ _ _, by rw [hw]; exact Below.refl _ _⟩
  · obtain ⟨blk, cap, rfl, hb, hlt, hnc, hcm, hl, hH⟩ := Lib.holds_of_ownsRow h hv
    clear h hv
    haveI : Inhabited {z : Cl // ClAt w0 z} := ⟨⟨((none, 0, 0), []), ⟨set_nil _, by simp⟩⟩⟩
    obtain ⟨d, hd⟩ : ∃ d : Array {z : Cl // ClAt w0 z}, d = (zs.attach.map fun z => (⟨z.1, hz z.1 z.2⟩ : {z : Cl // ClAt w0 z})).toArray := ⟨_, rfl⟩
    have hds : d.size = n := by rw [hd]; simp [hl]
    have hdl : d.toList.map Subtype.val = zs := by
      rw [hd]
      simp only [List.map_map]
      have : (Subtype.val ∘ fun z : {x // x ∈ zs} => (⟨z.1, hz z.1 z.2⟩ : {z : Cl // ClAt w0 z})) = Subtype.val := rfl
      rw [this, List.attach_map_subtype_val]
    have hdj : ∀ j, j < d.size → encC d[j]!.1 = encC zs.toArray[j]! := fun j hj => by
      have h1 : (d.toList.map Subtype.val)[j]? = zs[j]? := by rw [hdl]
      rw [List.getElem?_map, Array.getElem?_toList, Array.getElem?_eq_getElem hj, Option.map_some] at h1
      have h2 : j < zs.length := by omega
      rw [List.getElem?_eq_getElem h2] at h1
      have h3 : zs.toArray[j]! = zs[j] := by simp [h2]
      rw [getElem!_pos d j hj, h3, ← Option.some.inj h1]
    have hK : HoldsK (fun x : {z : Cl // ClAt w0 z} => [encC x.1]) 1 w blk 0 d := fun j hj => by
      have hj' : j < d.size := by simpa using hj
      have := hH j (by simp; omega)
      rw [flat_one (fun x : {z : Cl // ClAt w0 z} => encC x.1) d j hj', hdj j hj']
      exact this
    have hO' : SWO (ltOf fun x y : {z : Cl // ClAt w0 z} => cf x.1 y.1) := ⟨fun x => hO.irrefl x.1, fun x y z => hO.trans x.1 y.1 z.1, fun x y z => hO.ntrans x.1 y.1 z.1⟩
    have hcmp : CmpLays Tryz.prog g #[] (fun x : {z : Cl // ClAt w0 z} => [encC x.1]) 1 (fun x y => cf x.1 y.1) blk 0 d.size w := fun m os dk _ x y => by
      have hk : Below w0.heap.size w0 (sortWorldK (fun x : {z : Cl // ClAt w0 z} => [encC x.1]) 1 w blk 0 m dk os) := hb0.trans ((keep_sortK (· < w0.heap.size) _ 1 w blk 0 m dk os (by omega)).below hb0.size)
      exact hc _ x.1 y.1 (x.2.below hk) (y.2.below hk)
    have con := sortCls (fun x : {z : Cl // ClAt w0 z} => [encC x.1]) (fun _ => rfl) (fun x u hu => by rw [List.mem_singleton.1 hu]; rfl) (fun x y => cf x.1 y.1) hO' g #[] blk 0 cap d w eg hcmp hK hlt (by omega)
    rw [hds] at con
    refine con.mono fun e w' ⟨he, d', m, os, hp, hs, hw⟩ => ⟨he, some ⟨blk, 0, none⟩, cap, d'.toList.map Subtype.val, rfl, (fun h => by cases h), ?_, ?_, ?_, ?_⟩
    · rw [← hdl]
      refine List.Perm.map _ (sort_all d d' ?_)
      rw [hds]; exact hp
    · intro i j x y hij hi hj hlt
      have e1 : d'.size = n := by rw [hp.1, hds]
      rw [List.getElem?_map, Array.getElem?_toList] at hi hj
      have hjl : j < d'.size := by
        rcases Nat.lt_or_ge j d'.size with h | h
        · exact h
        · rw [Array.getElem?_eq_none h] at hj; cases hj
      rw [Array.getElem?_eq_getElem hjl, Option.map_some] at hj
      rw [Array.getElem?_eq_getElem (by omega), Option.map_some] at hi
      have := hs i j (Nat.zero_le _) hij (by omega)
      rw [getElem!_pos d' j hjl, getElem!_pos d' i (by omega)] at this
      have h4 : ¬ cf d'[j].val d'[i].val < 0 := of_decide_eq_false this
      rw [Option.some.inj hj, Option.some.inj hi] at h4
      exact h4 hlt
    · have e1 : d'.size = d.size := by rw [hp.1]
      have hK' := holdsK_sortWorldK (fun x : {z : Cl // ClAt w0 z} => [encC x.1]) 1 w blk 0 m d d' os hlt hK e1
      rw [hw]
      refine ⟨by rw [List.length_map, Array.length_toList, e1, hds], fun _ => ⟨blk, 0, rfl, lt_sortWorldK _ 1 w blk 0 m d' os hlt, fun i x hx => ?_⟩⟩
      rw [List.getElem?_map, Array.getElem?_toList] at hx
      have hil : i < d'.size := by
        rcases Nat.lt_or_ge i d'.size with h | h
        · exact h
        · rw [Array.getElem?_eq_none h] at hx; cases hx
      rw [Array.getElem?_eq_getElem hil, Option.map_some] at hx
      have := (hK' i (by simp; omega)).1
      rw [flat_one (fun x : {z : Cl // ClAt w0 z} => encC x.1) d' i hil, getElem!_pos d' i hil, Option.some.inj hx] at this
      exact this
    · rw [hw]
      exact (keep_sortK (· < w0.heap.size) _ 1 w blk 0 m d' os (by omega)).below hb0.size
def lenF (x y : Cl) : Int := Lib.compareInt x.2.length y.2.length
def cmpF (x y : Cl) : Int := cmpL x.2 y.2
theorem ltLen (x y : Cl) : ltOf lenF x y = decide (x.2.length < y.2.length) := by
  unfold ltOf lenF Lib.compareInt
  by_cases h1 : x.2.length < y.2.length
  · simp [h1]
  · by_cases h2 : y.2.length < x.2.length <;> simp [h1, h2]
theorem swoLen : SWO (ltOf lenF) where
  irrefl x := by rw [ltLen]; simp
  trans x y z h1 h2 := by rw [ltLen] at *; simp at *; omega
  ntrans x y z h1 h2 := by rw [ltLen] at *; simp at *; omega
theorem cmpL_neg (x y : List (List UInt8)) : cmpL x y < 0 ↔ x < y := by
  rw [← cmp_lt]
  constructor
  · intro h
    have : ∀ a b : List (List UInt8), cmpL a b = -1 ∨ cmpL a b = 0 ∨ cmpL a b = 1 := fun a => by
      induction a with
      | nil => intro b; cases b <;> simp [cmpL]
      | cons p a ih =>
        intro b
        cases b with
        | nil => simp [cmpL]
        | cons q b =>
          unfold cmpL
          split
          · simp
          · split
            · simp
            · exact ih b
    rcases this x y with k | k | k <;> omega
  · intro h; omega
theorem ltCmp (x y : Cl) : ltOf cmpF x y = decide (x.2 < y.2) := by
  unfold ltOf cmpF
  rw [Bool.eq_iff_iff, decide_eq_true_iff, decide_eq_true_iff]
  exact cmpL_neg _ _
theorem swoCmp : SWO (ltOf cmpF) where
  irrefl x := by rw [ltCmp]; exact decide_eq_false (Lin.irr _)
  trans x y z h1 h2 := by
    rw [ltCmp] at *
    exact decide_eq_true (Lin.tr (of_decide_eq_true h1) (of_decide_eq_true h2))
  ntrans x y z h1 h2 := by
    rw [ltCmp] at *
    have k1 := of_decide_eq_false h1
    have k2 := of_decide_eq_false h2
    refine decide_eq_false fun h => ?_
    rcases Lin.tri x.2 y.2 with k | k | k
    · exact k1 k
    · rw [k] at h; exact k2 h
    · exact k2 (Lin.tr k h)
theorem cl_len {w : World} {z : Cl} (h : ClAt w z) : z.2.length = z.1.2.1 := by
  obtain ⟨q, n, c, he, _, _, hs, _⟩ := h.set
  cases he
  exact hs.1
set_option maxRecDepth 100000 in
set_option maxHeartbeats 4000000 in
theorem shortest_any (q : Option Addr) (n c : Nat) (zs : List Cl) (w : World) (h : SlIn encC w q n zs) (hz : ∀ z ∈ zs, ClAt w z) (hq : q = none → c = 0) (hn : n ≤ 1099511627776) :
    Calls Tryz.prog 89 #[.slice q n c] w fun e w' => ∃ (q' : Option Addr) (c' : Nat) (zs' : List Cl), e = .returned (.slice q' n c') ∧ zs'.Perm zs ∧ (∀ (i j : Nat) (x y : Cl), i < j → zs'[i]? = some x → zs'[j]? = some y → x.2.length ≤ y.2.length) ∧ SlIn encC w' q' n zs' ∧ Below w.heap.size w w' := by
  have con := Clone_any q n c zs w h hq hn
  have HZ := Lib.hid hz
  clear h hz
  go_enter Tryz.func89, Tryz.ntmps89
  go_wp2_with fail
  refine con.mono ?_
  rintro e w2 ⟨v, rfl, hown, hb⟩
  have con2 := sort_any 124 lenF swoLen (enters_of Tryz.func124 (by kernel_rfl) rfl) (fun W z1 z2 h1 h2 => by
    have e : lenF z1 z2 = Lib.compareInt z1.1.2.1 z2.1.2.1 := by unfold lenF; rw [cl_len h1, cl_len h2]
    rw [e]
    exact short1_any z1.1.1 z1.1.2.1 z1.1.2.2 z2.1.1 z2.1.2.1 z2.1.2.2 W) w v n zs w2 hown HZ.out hb hn
  clear con hown
  go_wp2_with fail
  refine con2.mono ?_
  rintro e w3 ⟨rfl, q', c', zs', rfl, hq', hp, hs, hsl, hb3⟩
  clear con2
  go_wp2
  go_ret
  refine ⟨q', c', zs', rfl, hp, fun i j x y hij hi hj => ?_, hsl, hb.trans (hb3.mono (by have := hb.size; omega))⟩
  have h1 := hs i j x y hij hi hj
  have h2 : ltOf lenF y x = false := decide_eq_false (by omega)
  rw [ltLen] at h2
  have := of_decide_eq_false h2
  omega
end Go.Proofs.YtedglpfdibamdaaGreatDoor.Frm
namespace Go.Proofs.YtedglpfdibamdaaGreatDoor.Frm
open Go.RowKit Go.Shelf Go.Sort Url Org Cls
attribute [local go_sem] Oper.semAt_some
set_option linter.unusedVariables false
def FrmIs (w : World) (v : Value) (f : List (List (List UInt8))) : Prop := ∃ q n c, v = .agg #[.slice q n c] ∧ (q = none → c = 0) ∧ n ≤ c ∧ ClsIn w q n f
theorem frm_form {w : World} {v : Value} {f : List (List (List UInt8))} (h : FrmIs w v f) : ∃ q n c, v = .agg #[.slice q n c] := by
  obtain ⟨q, n, c, rfl, _⟩ := h
  exact ⟨q, n, c, rfl⟩
theorem FrmIs.below {w w' : World} {v : Value} {f : List (List (List UInt8))} (h : FrmIs w v f) (hb : Below w.heap.size w w') : FrmIs w' v f := by
  obtain ⟨q, n, c, rfl, h1, h2, h3⟩ := h
  exact ⟨q, n, c, rfl, h1, h2, h3.below hb⟩
theorem FrmIs.row {w : World} {q : Option Addr} {n c : Nat} {f : List (List (List UInt8))} (h : FrmIs w (.agg #[.slice q n c]) f) : (q = none → c = 0) ∧ n ≤ c ∧ ClsIn w q n f := by
  obtain ⟨q', n', c', he, h1, h2, h3⟩ := h
  cases he
  exact ⟨h1, h2, h3⟩
theorem frm_nil (w : World) : FrmIs w (.agg #[.slice none 0 0]) [] := ⟨none, 0, 0, rfl, fun _ => rfl, Nat.le_refl _, ClsIn.nil _ _⟩
def FrmOut (r : Sum Int (List (List (List UInt8)))) (w : World) (e : Ending) (w' : World) : Prop :=
  ∃ q n c, e = .returned (.tuple #[.agg #[.slice q n c], .int .i64 (frmE r)]) ∧ FrmIs w' (.agg #[.slice q n c]) (frmV r) ∧ (∀ a, q = some a → w.heap.size ≤ a.block) ∧ Below w.heap.size w w'
theorem ret_frm2 {fn : Func} {p u : Tmp} (h : fn.results = #[.cell p 31, .tmp u]) (tmps : Array Value) (w : World) (B : Nat) (v : Value) (hp : tmps.getD p undef = .pointer (some ⟨B, 0, none⟩)) (hU : Boxed w B 31 v) :
    (results fn tmps).run Tryz.prog w = .ok (.tuple #[.agg #[v], tmps.getD u undef]) w := by
  rw [results_cell_tmp h, hp]
  simp [asAddr, Result.andThen, run_loadVar_row w B 31 _ #[v] (0, 0) _ hU Tryz.underlying31 rfl (by kernel_rfl)]
theorem slIn_set {w : World} {q : Option Addr} {n : Nat} {zs : List Cl} (B : Nat) (v : Value) (h : SlIn encC w q n zs) (hq : ∀ a, q = some a → a.block ≠ B) : SlIn encC (w.setCell ⟨B, 0, none⟩ v) q n zs :=
  h.keep (Keep.setCell (S := fun b => b ≠ B) w ⟨B, 0, none⟩ v (by simp)) fun a h _ => hq a h
theorem FrmIs.set {w : World} {q : Option Addr} {n c : Nat} {f : List (List (List UInt8))} {B : Nat} {t : TypeId} {u u' : Value} (h : FrmIs w (.agg #[.slice q n c]) f) (b : Boxed w B t u) (hu : ∀ x, encStr x ≠ u) (hq : ∀ a, q = some a → a.block ≠ B) : FrmIs (w.setCell ⟨B, 0, none⟩ u') (.agg #[.slice q n c]) f := by
  obtain ⟨h1, h2, zs, s, z, rfl⟩ := h.row
  exact ⟨q, n, c, rfl, h1, h2, zs, slIn_set B _ s hq, fun x hx => ⟨(z x hx).set.set b hu, (z x hx).few⟩, rfl⟩
theorem slC_put {w : World} {q : Option Addr} {n : Nat} {zs : List Cl} {D : Nat} {d : Option (List Deferred)} {o : Obj} (h : SlIn encC w q n zs) (hD : w.heap[D]? = some (.deferred d)) : SlIn encC (w.putObj D o) q n zs := by
  refine h.keep (Keep.putObj (S := fun b => b ≠ D) w D o (by simp)) fun a ha h0 e => ?_
  obtain ⟨b, o', he, _, hc⟩ := h.at h0
  rw [ha] at he; cases he
  obtain ⟨y, hy⟩ : ∃ y, zs[0]? = some y := ⟨_, List.getElem?_eq_getElem (by rw [h.1]; exact h0)⟩
  have := hc 0 y hy
  simp only at e
  subst e
  simp [World.cell?, hD] at this
theorem take_snoc {α : Type} (l : List α) (k : Nat) (x : α) (h : l[k]? = some x) : l.take (k + 1) = l.take k ++ [x] ∧ l.drop k = x :: l.drop (k + 1) := by
  obtain ⟨hk, rfl⟩ := List.getElem?_eq_some_iff.1 h
  exact ⟨List.take_succ_eq_append_getElem hk, List.drop_eq_getElem_cons hk⟩
theorem short_rest (ys : List Cl) (k : Nat) (x : Cl) (h : ys[k]? = some x) (hs : ∀ (i j : Nat) (x y : Cl), i < j → ys[i]? = some x → ys[j]? = some y → x.2.length ≤ y.2.length) : ∀ y ∈ (ys.drop (k + 1)).map Prod.snd, x.2.length ≤ y.length := fun y hy => by
  obtain ⟨z, hz, rfl⟩ := List.mem_map.1 hy
  obtain ⟨j, hj, rfl⟩ := List.getElem_of_mem hz
  refine hs k (k + 1 + j) x _ (by omega) h ?_
  rw [← List.getElem?_drop]
  exact List.getElem?_eq_getElem hj
set_option maxRecDepth 100000 in
set_option maxHeartbeats 16000000 in
theorem Of_any (q : Option Addr) (n c : Nat) (xs : List (List (List UInt8))) (w : World) (h : ClsIn w q n xs) (hq : q = none → c = 0) (hm : n ≤ 1099511627776) :
    Calls Tryz.prog 55 #[.slice q n c] w (FrmOut (ofF xs) w) := by
  have hR := Lib.hid h.ok
  obtain ⟨zs, hs, hz, hxs⟩ := h
  obtain ⟨W1, hW1⟩ : ∃ W1, w.alloc (.cells #[.slice none 0 0] 31) = W1 := ⟨_, rfl⟩
  have A1 : Below w.heap.size w W1 := hW1 ▸ (Below.refl _ w).alloc (Nat.le_refl _) _
  have b1 : Boxed W1 w.heap.size 31 (.slice none 0 0) := hW1 ▸ Boxed.new w _ _
  have hs1 : W1.heap.size = w.heap.size + 1 := by rw [← hW1]; simp
  have con := shortest_any q n c zs W1 (hs.below A1 hs.lt) (fun z hz' => (hz z hz').below A1) hq hm
  have HW1 := Lib.hid hW1
  have HX := Lib.hid hxs
  have HZ := Lib.hid hz
  have HS1 := Lib.hid hs1
  clear hW1 hs hz hxs hs1
  go_enter Tryz.func55, Tryz.ntmps55
  go_wp2_with fail
  rw [HW1.out]
  refine con.mono ?_
  rintro e w2 ⟨q', c', ys, rfl, hp, hsh, hsl, hb2⟩
  have HP := Lib.hid hp
  have HSH := Lib.hid hsh
  have hyl := hsl.1
  have HYL := Lib.hid hyl
  have b2 := (Keep.of_below hb2).boxed b1 b1.lt
  have A2 := A1.trans (hb2.mono A1.size)
  have hs2 := Lib.hid (show w.heap.size < w2.heap.size by have := hb2.size; have := HS1.out; omega)
  have H0 := Lib.hid (Left.start (ys.map Prod.snd) fun c hc => by
    obtain ⟨z, hz, rfl⟩ := List.mem_map.1 hc
    exact (HZ.out z (hp.mem_iff.1 hz)).rise)
  have HZ2 := Lib.hid (show ∀ z ∈ ys, ClAt w2 z from fun z hz => (HZ.out z (hp.mem_iff.1 hz)).below A2)
  clear con hp hsh hb2 b1 hyl
  go_wp2
  go_loopw [4, 10] (fun a i wr => ∃ (k : Nat) (ls : List Cl), k ≤ n ∧ i = .int .i64 k ∧ wr.ownsRow w2.heap.size 77 1 a ls.length (ls.map encC) ∧ Hid ((∀ z ∈ ls, z ∈ ys) ∧ Left (ls.map Prod.snd) ((ys.take k).map Prod.snd) ((ys.drop k).map Prod.snd)) ∧ ls.length ≤ 16 ∧ Boxed wr w.heap.size 31 (.slice none 0 0) ∧ Below w2.heap.size w2 wr) (fun _ i _ => n - (intOf i).toNat)
  case atStart => exact ⟨0, [], Nat.zero_le _, rfl, World.ownsRow_nil _ _ _ _, Lib.hid ⟨fun z hz => (by cases hz), by simpa using H0.out⟩, by simp, b2, Below.refl _ _⟩
  case round =>
    obtain ⟨k, ls, hk, rfl, hrow, HL, h16, hbx, hB⟩ := hrel
    have hBs := hB.size
    obtain ⟨q4, c4, rfl, hle, hmc, hsl4, hqb⟩ := slIn_of_owns hrow
    by_cases hlt : k < n
    · obtain ⟨b, o, rfl, hbl, hc⟩ := (hsl.below hB hsl.lt).at (by omega)
      obtain ⟨⟨⟨zq, zn, zc⟩, zx⟩, hz⟩ : ∃ z, ys[k]? = some z := ⟨_, List.getElem?_eq_getElem (by have := HYL.out; omega)⟩
      have hck : wr.cell? ⟨b, o + k, none⟩ = some (.slice zq zn zc) := hc k _ hz
      have hzm := List.mem_of_getElem? hz
      have hza : ClAt wr ((zq, zn, zc), zx) := (HZ2.out _ hzm).below hB
      obtain ⟨W4, hW4⟩ : ∃ W4, wr.alloc (.cells #[.slice zq zn zc] 77) = W4 := ⟨_, rfl⟩
      have hka : ∀ S, Keep S wr W4 := fun S => hW4 ▸ Keep.alloc S _ _
      have b4 : Boxed W4 wr.heap.size 77 (.slice zq zn zc) := hW4 ▸ Boxed.new wr _ _
      have con := oneImplies_any q4 ls.length c4 (ls.map Prod.snd) (.agg #[.slice zq zn zc]) zx W4 ⟨ls, hsl4.keep (hka (fun _ => True)) (fun _ _ _ => trivial), fun z hz => ((HZ2.out _ (HL.out.1 z hz)).below hB).keep (hka _), rfl⟩ (hza.keep (hka _)).set hza.few (by omega)
      have c4 := b4.cell
      have HW4 := Lib.hid hW4
      clear hc hW4
      have hcm := hza.set
      obtain ⟨t1, t2⟩ := take_snoc ys k _ hz
      have HT1 := Lib.hid t1
      have HT2 := Lib.hid (show Left (ls.map Prod.snd) ((ys.take k).map Prod.snd) (zx :: (ys.drop (k + 1)).map Prod.snd) by have := HL.out.2; rw [t2] at this; exact this)
      have HS3 := Lib.hid (short_rest ys k _ hz HSH.out)
      have HM := Lib.hid hzm
      clear t1 t2 hz hzm hza hcm
      obtain ⟨ob, hob⟩ : ∃ ob, oneB (ls.map Prod.snd) zx = ob := ⟨_, rfl⟩
      have HO := Lib.hid hob
      rw [hob] at con
      clear hob
      go_wp2_with fail
      rw [HW4.out]
      refine con.mono ?_
      rintro e w5 ⟨rfl, hb5⟩
      have hs4 : W4.heap.size = wr.heap.size + 1 := by rw [← HW4.out]; simp
      have hs5 := hb5.size
      have hk5 : Keep (· < wr.heap.size) wr w5 := (hka _).trans ((Keep.of_below hb5).mono fun b _ hb => by omega)
      have hrow5 := hk5.row hrow (fun b hb => (hrow.lt b hb).2)
      have hbx5 := hk5.boxed hbx hbx.lt
      have hB5 : Below w2.heap.size w2 w5 := hB.trans ((hk5.mono fun b _ hb => by omega).below hBs)
      have hBs5 := hB5.size
      have b5 := (Keep.of_below hb5).boxed b4 (by omega)
      have c5 := b5.cell
      clear con hb5 b4 c4 hka hk5 HW4 hrow hbx hsl4 hB
      cases ob with
      | true =>
        have HL2 := Lib.hid (show (∀ z ∈ ls, z ∈ ys) ∧ Left (ls.map Prod.snd) ((ys.take (k + 1)).map Prod.snd) ((ys.drop (k + 1)).map Prod.snd) from ⟨HL.out.1, by
          rw [HT1.out, List.map_append]
          exact HT2.out.skip HO.out HS3.out⟩)
        go_wp2
        go_roundw
        case rel => exact ⟨k + 1, ls, by omega, by go_num, hrow5, HL2, h16, hbx5, hB5⟩
        case measure => simp [intOf]; omega
      | false =>
        have HL2 := Lib.hid (show (∀ z ∈ ls ++ [((zq, zn, zc), zx)], z ∈ ys) ∧ Left ((ls ++ [((zq, zn, zc), zx)]).map Prod.snd) ((ys.take (k + 1)).map Prod.snd) ((ys.drop (k + 1)).map Prod.snd) from ⟨fun z hz => by
          rcases List.mem_append.1 hz with h | h
          · exact HL.out.1 z h
          · rw [List.mem_singleton.1 h]; exact HM.out, by
          rw [HT1.out, List.map_append, List.map_append]
          exact HT2.out.take HO.out HS3.out⟩)
        by_cases hfull : ls.length = 16
        · have d : ((ls.length : Int) == 16) = true := by rw [hfull]; rfl
          have HR := Lib.hid (show ofF xs = .inl 3 from ofF_many xs (ys.map Prod.snd) ((ls ++ [((zq, zn, zc), zx)]).map Prod.snd) ((ys.take (k + 1)).map Prod.snd) ((ys.drop (k + 1)).map Prod.snd) (by rw [HX.out]; exact HP.out.map _) (by rw [← List.map_append, List.take_append_drop]) HL2.out.2 (by simp; omega))
          have kf := hbx5.frozen
          have kc := hbx5.cell
          clear hfull
          go_wp2
          refine bodyPost_ret (ret_frm2 rfl _ _ w.heap.size _ rfl (hbx5.set _)) rfl ?_
          rw [HR.out]
          exact ⟨none, 0, 0, rfl, frm_nil _, (fun a h => by cases h), (A2.trans (hB5.mono A2.size)).setCell (Nat.le_refl _) _⟩
        · have d : ((ls.length : Int) == 16) = false := by rw [beq_eq_false_iff_ne]; omega
          obtain ⟨i0, hi0, hz0, hz1, hz2⟩ := info_parts info_cls
          go_wp2_with (at_builtin; refine wpList_append_own_at _ rfl _ _ 29 rfl w2.heap.size 77 i0 (.agg #[.slice none 0 0]) 1 24 Tryz.underlying29 hi0 hz0 hz1 hz2 rfl (by decide) _ _ _ rfl (hrow5.alloc _) ⟨w5.heap.size, 0, none⟩ 1 1 [.slice zq zn zc] rfl rfl (cell_one_new _ _ _) (by simp [Value.oneCell']) (by unfold maxLen; omega) (by omega) (by simp; omega) ?_; intro v' w6 hown' hgrow _ hat)
          have hb6 : Below w2.heap.size w5 w6 := ((Below.refl _ w5).alloc hBs5 _).grown hgrow (by simp; omega) (fun b hb => (hrow5.lt b hb).1)
          go_roundw
          case rel => exact ⟨k + 1, ls ++ [((zq, zn, zc), zx)], by omega, by go_num, by simpa [encC] using hown', HL2, by simp; omega, (Keep.of_below hb6).boxed hbx5 hs2.out, hB5.trans hb6⟩
          case measure => simp [intOf]; omega
    · obtain rfl : k = n := by omega
      have con2 := sort_any 33 cmpF swoCmp (enters_of Tryz.func33 (by kernel_rfl) rfl) (fun W z1 z2 h1 h2 => clsCmp_grew z1.1.1 z1.1.2.1 z1.1.2.2 z2.1.1 z2.1.2.1 z2.1.2.2 z1.2 z2.2 W h1.set h2.set) w2 (.slice q4 ls.length c4) ls.length ls wr hrow (fun z hz => HZ2.out z (HL.out.1 z hz)) hB (by omega)
      have HR := Lib.hid (show ofF xs = .inr (sortR (ls.map Prod.snd)) from ofF_left xs (ys.map Prod.snd) (ls.map Prod.snd) (by rw [HX.out]; exact HP.out.map _) (by
        have := HL.out.2
        rw [List.take_of_length_le (by have := HYL.out; omega), List.drop_of_length_le (by have := HYL.out; omega)] at this
        exact this) (by simpa using h16))
      have HND := Lib.hid HL.out.2.nodup
      clear hrow hsl4
      go_wp2_with fail
      refine con2.mono ?_
      rintro e w3 ⟨rfl, q5, c5, zs', he, hq5, hp, hs, hsl5, hb3⟩
      cases he
      have hbx3 := (Keep.of_below hb3).boxed hbx hs2.out
      have hB3 : Below w2.heap.size w2 w3 := hB.trans hb3
      have hA3 := (A2.trans (hB3.mono A2.size)).setCell (p := ⟨w.heap.size, 0, none⟩) (Nat.le_refl _) (.slice q4 ls.length c4)
      have HE := Lib.hid (show sortR (ls.map Prod.snd) = zs'.map Prod.snd from (sorted_is (ls.map Prod.snd) (zs'.map Prod.snd) (hp.map _) HND.out fun i j x y hij hi hj => by
        rw [List.getElem?_map] at hi hj
        cases hi' : zs'[i]? with
        | none => rw [hi'] at hi; cases hi
        | some x' =>
          cases hj' : zs'[j]? with
          | none => rw [hj'] at hj; cases hj
          | some y' =>
            rw [hi'] at hi
            rw [hj'] at hj
            cases hi
            cases hj
            have h1 := hs i j x' y' hij hi' hj'
            exact fun h => by
              have h2 := (cmpL_neg _ _).2 h
              have e : cmpF y' x' = cmpL y'.2 x'.2 := rfl
              omega).symm)
      have HPP := Lib.hid hp
      have kf := hbx3.frozen
      have kc := hbx3.cell
      clear con2 hp hs hb3
      go_wp2
      refine bodyPost_ret (ret_frm2 rfl _ _ w.heap.size _ rfl (hbx3.set _)) rfl ?_
      rw [HR.out]
      refine ⟨q4, ls.length, c4, rfl, ⟨q4, ls.length, c4, rfl, hq5, hle, zs', slIn_set w.heap.size _ hsl5 (fun a ha => ?_), fun z hz => ?_, HE.out⟩, (fun a ha => by have := (hqb a ha).1; have := hs2.out; omega), hA3⟩
      · have := (hqb a ha).1
        have := hs2.out
        omega
      · exact (HZ.out z (HP.out.mem_iff.1 (HL.out.1 z (HPP.out.mem_iff.1 hz)))).below hA3
end Go.Proofs.YtedglpfdibamdaaGreatDoor.Frm
namespace Go.Proofs.YtedglpfdibamdaaGreatDoor.Frm
open Go.RowKit Go.Shelf Go.Sort Url Org Cls
attribute [local go_sem] Oper.semAt_some
set_option linter.unusedVariables false
def ClArg (z : Cl) (args : Array Value) (G : Nat → Prop) (_W : World) : Prop := args = #[.agg #[encC z]] ∧ G = fun _ => False
theorem frmAll_any (q : Option Addr) (n c : Nat) (w : World) :
    Calls Tryz.prog 73 #[.agg #[.slice q n c]] w fun e w' => e = .returned (.func (.func 145) #[] #[.pointer (some ⟨w.heap.size + 1, 0, none⟩)]) ∧
      w' = (w.alloc (.cells #[.slice q n c] 31)).alloc (.cells #[.slice q n c] 29) := by
  have con : ∀ W : World, Calls Tryz.prog 108 #[.slice q n c] W fun e w' => e = .returned (.func (.func 145) #[] #[.pointer (some ⟨W.heap.size, 0, none⟩)]) ∧ w' = W.alloc (.cells #[.slice q n c] 29) := fun W => by
    go_enter Tryz.func108, Tryz.ntmps108
    go_wp2
    go_ret
    exact ⟨rfl, rfl⟩
  go_enter Tryz.func73, Tryz.ntmps73
  go_wp2_with fail
  refine (con _).mono ?_
  rintro e w' ⟨rfl, rfl⟩
  go_wp2
  go_ret
  exact ⟨by simp, rfl⟩
set_option maxRecDepth 100000 in
set_option maxHeartbeats 2000000 in
theorem Values1_iter (B : Nat) (q : Option Addr) (n c : Nat) (zs : List Cl) (RB : Nat → Prop) (w0 : World) (hm : n ≤ 140737488355328)
    (h : SlIn encC w0 q n zs) (hq : ∀ a, q = some a → 0 < n → RB a.block) (b : Boxed w0 B 29 (.slice q n c)) (hR : RB B) (hRs : ∀ b, RB b → b < w0.heap.size) :
    IterC Tryz.prog 145 #[.pointer (some ⟨B, 0, none⟩)] ClArg zs RB w0 := by
  intro l J Jx W hW hJ hJx hY h0
  refine (callsIn_wide (n := 1)).1 ?_
  refine callsIn_of_wp Tryz.func145 rfl trivial ?_ rfl
  simp only [Tryz.ntmps145, List.size_toArray, List.length_cons, List.length_nil, Nat.reduceAdd, Nat.reduceSub, Array.replicate_succ, Array.replicate_zero, List.push_toArray, List.append_toArray, List.nil_append, List.cons_append]
  have k1 := (hW.boxed b hR).cell
  have hl := Lib.hid h.1
  gi_wp2
  gi_loopw [7] (fun i wr => ∃ k : Nat, ∃ pre, k ≤ n ∧ i = .int .i64 k ∧ Keep RB W wr ∧ Hid (zs = pre ++ zs.drop k) ∧ J pre (fun _ => False) wr) (fun i _ => n - (intOf i).toNat)
  case atStart => exact ⟨0, [], Nat.zero_le _, rfl, Keep.refl _ _, rfl, h0⟩
  case round =>
    obtain ⟨k, pre, hk, rfl, hK, HX, hJr⟩ := hrel
    by_cases hlt : k < n
    · obtain ⟨bb, o, rfl, hb, hc⟩ := (h.keep (hW.trans hK) hq).at (by omega)
      obtain ⟨x, hx, hd⟩ := drop_getElem zs k (by rw [hl.out]; exact hlt)
      obtain ⟨⟨xq, xn, xc⟩, xp⟩ := x
      have hck : wr.cell? ⟨bb, o + k, none⟩ = some (.slice xq xn xc) := hc k _ hx
      have HX2 := Lib.hid (show zs = pre ++ ((xq, xn, xc), xp) :: zs.drop (k + 1) by rw [← hd]; exact HX.out)
      have hka : ∀ S, Keep S wr (wr.alloc (.cells #[.slice xq xn xc] 77)) := fun S => Keep.alloc S _ _
      obtain ⟨fn, tmps, assign, body, hy, hRR⟩ := hY pre ((xq, xn, xc), xp) _ (fun _ => False) (fun _ => False) #[.agg #[.slice xq xn xc]] (wr.alloc (.cells #[.slice xq xn xc] 77)) HX2.out (hJ _ _ _ _ _ hJr (hka _) (fun _ h => h.elim)) (fun _ h => h.elim) ⟨rfl, rfl⟩ (fun _ h => h)
      clear HX hd hx hc hY h hb
      gi_wp2_with fail
      refine hRR.mono ?_
      rintro e W4 ⟨hk3, (⟨rfl, hJ3⟩ | ⟨rfl, hJx3⟩)⟩
      · gi_wp2
        go_roundw
        case rel => exact ⟨k + 1, pre ++ [((xq, xn, xc), xp)], by omega, by go_num, hK.trans ((hka _).trans (hk3.mono fun _ _ h => .inl h)), Lib.hid (show zs = (pre ++ [((xq, xn, xc), xp)]) ++ zs.drop (k + 1) by rw [List.append_assoc]; exact HX2.out), hJ _ _ _ _ _ hJ3 (Keep.refl _ _) (fun _ h => h.elim)⟩
        case measure => simp [intOf]; omega
      · gi_wp2
        refine bodyPost_ret (results_none rfl _ _ _) rfl ?_
        exact ⟨⟨_, rfl⟩, fun _ => False, fun _ h => h.elim, .inr ⟨pre ++ [((xq, xn, xc), xp)], _, by rw [HX2.out, List.append_assoc]; rfl, hJx _ _ _ _ _ hJx3 (Keep.refl _ _) (fun _ h => h.elim)⟩⟩
    · have HX2 := Lib.hid (show zs = pre by rw [HX.out, List.drop_of_length_le (by rw [hl.out]; omega)]; simp)
      clear HX hY h
      gi_wp2
      refine bodyPost_end (results_none rfl _ _ _) rfl ?_
      exact ⟨⟨_, rfl⟩, fun _ => False, fun _ h => h.elim, .inl (by rw [HX2.out]; exact hJr)⟩
set_option maxHeartbeats 1000000 in
theorem Len_any (v : Value) (f : List (List (List UInt8))) (w : World) (h : FrmIs w v f) :
    Calls Tryz.prog 17 #[v] w fun e w' => e = .returned (.int .i64 f.length) ∧ Below w.heap.size w w' := by
  obtain ⟨q, n, c, rfl, _, _, h3⟩ := h
  obtain rfl := h3.len
  clear h3
  go_enter Tryz.func17, Tryz.ntmps17
  go_wp2
  go_ret
  exact ⟨rfl, below_alloc _⟩
theorem Always_any (w : World) : Calls Tryz.prog 30 #[] w fun e w' => e = .returned (.agg #[.slice none 0 0]) ∧ Below w.heap.size w w' := by
  have k0 := (Boxed.new w 31 (.slice none 0 0)).cell
  go_enter Tryz.func30, Tryz.ntmps30
  go_wp2
  refine bodyPost_ret (v := .agg #[.slice none 0 0]) (by simp [results, Tryz.f30, go_sem]) rfl ?_
  exact ⟨rfl, below_alloc _⟩
def ImpE (w : World) (f : List (List (List UInt8))) (q : Option Addr) (n c : Nat) (pre : List Cl) (W : World) : Prop :=
  Boxed W w.heap.size 31 (.slice q n c) ∧ Boxed W (w.heap.size + 2) 4 (.bool false) ∧ (∀ z ∈ pre, oneB f z.2 = true) ∧ Below w.heap.size w W
def ImpX (w : World) (f g : List (List (List UInt8))) (_ : List Cl) (W : World) : Prop :=
  Boxed W (w.heap.size + 2) 4 (.bool false) ∧ impB f g = false ∧ Below w.heap.size w W
set_option maxRecDepth 100000 in
set_option maxHeartbeats 8000000 in
theorem Implies_any (v1 v2 : Value) (f g : List (List (List UInt8))) (w : World) (h1 : FrmIs w v1 f) (h2 : FrmIs w v2 g) (lf : f.length ≤ 1099511627776) (lg : g.length ≤ 1099511627776) :
    Calls Tryz.prog 46 #[v1, v2] w fun e w' => e = .returned (.bool (impB f g)) ∧ Below w.heap.size w w' := by
  obtain ⟨q1, n1, c1, rfl⟩ := frm_form h1
  obtain ⟨q2, n2, c2, rfl⟩ := frm_form h2
  obtain ⟨_, _, r1⟩ := h1.row
  obtain ⟨_, _, r2⟩ := h2.row
  have e1 := r1.len
  have e2 := r2.len
  obtain ⟨zs, s2, z2, hg⟩ := r2
  refine (callsIn_wide (n := 1)).1 ?_
  refine callsIn_of_wp_marks Tryz.func46 rfl trivial ?_ rfl
  simp only [Tryz.ntmps46, List.size_toArray, List.length_cons, List.length_nil, Nat.reduceAdd, Nat.reduceSub, Array.replicate_succ, Array.replicate_zero, List.push_toArray, List.append_toArray, List.nil_append, List.cons_append]
  obtain ⟨W0, hW0⟩ : ∃ W0, ((w.alloc (.cells #[.slice q1 n1 c1] 31)).alloc (.cells #[.slice q2 n2 c2] 31)).alloc (.cells #[.bool false] 4) = W0 := ⟨_, rfl⟩
  have b0 : Boxed W0 w.heap.size 31 (.slice q1 n1 c1) := hW0 ▸ ((Boxed.new w _ _).alloc _).alloc _
  have b1 : Boxed W0 (w.heap.size + 1) 31 (.slice q2 n2 c2) := by
    have := (Boxed.new (w.alloc (.cells #[.slice q1 n1 c1] 31)) 31 (.slice q2 n2 c2)).alloc (.cells #[.bool false] 4)
    rw [World.size_alloc] at this
    exact hW0 ▸ this
  have b2 : Boxed W0 (w.heap.size + 2) 4 (.bool false) := by
    have := Boxed.new ((w.alloc (.cells #[.slice q1 n1 c1] 31)).alloc (.cells #[.slice q2 n2 c2] 31)) 4 (.bool false)
    rw [World.size_alloc, World.size_alloc] at this
    exact hW0 ▸ this
  have hB0 : Below w.heap.size w W0 := hW0 ▸ (((Below.refl _ w).alloc (Nat.le_refl _) _).alloc (by simp) _).alloc (by simp; omega) _
  have hs0 : W0.heap.size = w.heap.size + 3 := by rw [← hW0]; simp
  have con := frmAll_any q2 n2 c2 W0
  have k1 := b1.cell
  have HW0 := Lib.hid hW0
  clear hW0
  gi_wp2_with fail
  rw [HW0.out]
  gi_wp2_with fail
  refine ⟨trivial, (callsIn_wide.2 con).mono ?_⟩
  rintro e W1 ⟨rfl, hW1⟩
  have bv : Boxed W1 (W0.heap.size + 1) 29 (.slice q2 n2 c2) := by
    have := Boxed.new (W0.alloc (.cells #[.slice q2 n2 c2] 31)) 29 (.slice q2 n2 c2)
    rw [World.size_alloc] at this
    exact hW1 ▸ this
  have hbel : Below W0.heap.size W0 W1 := hW1 ▸ ((Below.refl _ W0).alloc (Nat.le_refl _) _).alloc (by simp) _
  have hs1 : W1.heap.size = W0.heap.size + 2 := by rw [hW1]; simp
  have hB1 := hB0.trans (hbel.mono hB0.size)
  have hit := Values1_iter (W0.heap.size + 1) q2 n2 c2 zs (fun b => b < W1.heap.size ∧ b ≠ w.heap.size + 2) W1 (by omega) (s2.below hB1 s2.lt) (fun a h h' => by have := s2.lt a h h'; omega) bv (by omega) (fun b hb => hb.1)
  replace b0 := (Keep.of_below hbel).boxed b0 b0.lt
  replace b2 := (Keep.of_below hbel).boxed b2 b2.lt
  have HI := Lib.hid (show impB f g = zs.all (fun z => oneB f z.2) by rw [imp_all, hg, List.all_map]; rfl)
  have r1' := r1
  have z2' := z2
  clear con k1 bv hW1 HW0 hg
  gi_wp2
  rw [hs0] at hs1 hit
  refine rf_law (gf := 145) (lb := #[.pointer (some ⟨w.heap.size + 3 + 1, 0, none⟩)]) rfl (enters_of Tryz.func145 (by kernel_rfl) rfl)
    hit (Keep.refl _ _) (fun b hb => hb.1) (fun x args G W h => by rw [h.1]; rfl)
    (Host.EvI W1 (ImpE w f q1 n1 c1)) (Host.EvX W1 (ImpX w f g)) (Host.EvI_abide ?e1) (Host.EvX_abide ?e2)
    ⟨(fun _ h => h.elim), Keep.refl _ _, b0, b2, (fun z hz => by cases hz), hB1⟩ ?round ?done ?stop
  case e1 =>
    rintro pre A B hk ⟨h1, h2, h3, h4⟩
    exact ⟨hk.boxed h1 (by omega), hk.boxed h2 (by omega), h3, h4.trans ((hk.mono fun b _ hb => by omega).below h4.size)⟩
  case e2 =>
    rintro pre A B hk ⟨h1, h3, h4⟩
    exact ⟨hk.boxed h1 (by omega), h3, h4.trans ((hk.mono fun b _ hb => by omega).below h4.size)⟩
  case round =>
    rintro ll pre ⟨⟨xq, xn, xc⟩, x⟩ rest Pv G args Wr hll hxs ⟨hge, hK1, hE1, hE2, hE3, hE4⟩ hPl hGl hPb hGP ⟨harg, rfl⟩
    obtain rfl : args = #[.agg #[.slice xq xn xc]] := harg
    have hxm : ((xq, xn, xc), x) ∈ zs := by rw [hxs]; simp
    clear hxs
    have hll2 := hPb ll hPl
    gi_wp2
    refine ⟨Keep.alloc _ _ _, fun W2 hk2 hs2 r hr => ?_⟩
    have hka := Keep.alloc (fun _ => True) Wr (.cells #[.slice xq xn xc] 77)
    have bx := hk2.boxed (Boxed.new Wr 77 (.slice xq xn xc)) (by omega)
    have k2 : Keep (fun b => b < W1.heap.size) Wr W2 := (hka.mono fun _ _ _ => trivial).trans (hk2.mono fun b _ hb h => by omega)
    have f1 := k2.boxed hE1 (by omega)
    have f2 := k2.boxed hE2 (by omega)
    have hW2 := hE4.trans ((k2.mono fun b _ h => by omega).below hE4.size)
    have hz := (z2' _ hxm).below hW2
    have con2 := oneImplies_any q1 n1 c1 f (.agg #[.slice xq xn xc]) x W2 (r1'.below hW2) hz.set hz.few (by omega)
    have hK2 : Keep (fun _ => False) W1 W2 := hK1.trans ((hka.mono fun _ _ h => h.elim).trans (hk2.mono fun _ _ h => h.elim))
    have c1' := f1.cell
    have cx := bx.cell
    have hs2' := hW2.size
    have hsz2 : W1.heap.size ≤ W2.heap.size := hK2.size
    clear hk2 hka hr hs2 hz
    obtain ⟨ob, hob⟩ : ∃ ob, oneB f x = ob := ⟨_, rfl⟩
    rw [hob] at con2
    have HO := Lib.hid hob
    clear hob
    cases ob with
    | true =>
      gi_wp2_with fail
      refine ⟨trivial, rfl, (CallsIn.inRound ll (callsIn_wide.2 con2)).mono ?_⟩
      rintro e w' ⟨rfl, hb'⟩
      have kb := Keep.of_below hb'
      clear con2
      gi_wp2
      refine ⟨kb.mono fun b hb _ => hb, fun b hb => hge b hb, hK2.trans (kb.mono fun _ _ h => h.elim), kb.boxed f1 f1.lt, kb.boxed f2 f2.lt, fun z hz => ?_, hW2.trans (hb'.mono hs2')⟩
      rcases List.mem_append.1 hz with h | h
      · exact hE3 z h
      · rw [List.mem_singleton.1 h]; exact HO.out
    | false =>
      have HB := Lib.hid (show impB f g = false by
        rw [HI.out, List.all_eq_false]; exact ⟨_, hxm, by rw [HO.out]; simp⟩)
      gi_wp2_with fail
      refine ⟨trivial, rfl, (CallsIn.inRound ll (callsIn_wide.2 con2)).mono ?_⟩
      rintro e w' ⟨rfl, hb'⟩
      have kb := Keep.of_below hb'
      have g2 := kb.boxed f2 f2.lt
      have zf := g2.frozen
      have zc := g2.cell
      clear con2
      gi_wp2
      have kst : ∀ S : Nat → Prop, ¬ S (w.heap.size + 2) → Keep S w' (w'.setCell ⟨w.heap.size + 2, 0, none⟩ (.bool false)) := fun S h => Keep.setCell _ _ _ h
      refine ⟨(kb.mono fun b hb _ => hb).trans (kst _ (fun h => ?_)), rfl, fun b hb => hge b hb, hK2.trans ((kb.mono fun _ _ h => h.elim).trans (kst _ (fun h => h))), g2.set _, HB.out, (hW2.trans (hb'.mono hs2')).setCell (p := ⟨w.heap.size + 2, 0, none⟩) (by simp) _⟩
      rcases h with h | h
      · exact h.2 rfl
      · have := hge _ h; omega
  case done =>
    rintro D Pv Wd hD hPD hPl ⟨hge, hK1, hE1, hE2, hE3, hE4⟩ hK
    have c2 := hE2.cell
    have zf := hE2.frozen
    gi_wp2
    have hKd : (Wd.setCell ⟨w.heap.size + 2, 0, none⟩ (.bool true)).heap[D]? = some (.deferred (some [])) := (Keep.setCell (S := fun b => b = D) Wd ⟨w.heap.size + 2, 0, none⟩ _ (show ¬ w.heap.size + 2 = D by omega)).heap rfl hK
    have kp : ∀ (S : Nat → Prop) (W : World), ¬ S D → Keep S W (W.putObj D (.deferred none)) := fun S W h => Keep.putObj _ _ _ h
    refine ⟨by simp, .inl ⟨_, _, rfl, run_takeDeferred hKd, ?_⟩⟩
    refine ⟨_, Host.results_bool rfl _ _ (w.heap.size + 2) _ rfl ((kp (fun b => b = w.heap.size + 2) _ (by omega)).boxed (hE2.set _) rfl).cell, ?_, ?_⟩
    · have : impB f g = true := by rw [HI.out, List.all_eq_true]; exact hE3
      rw [this]
    · have h5 := hE4.setCell (p := ⟨w.heap.size + 2, 0, none⟩) (by simp) (.bool true)
      exact h5.trans ((kp (fun b => b < w.heap.size) _ (by omega)).below h5.size)
  case stop =>
    rintro D cc pre rest Pv Wd hD hPD hPl hxs ⟨rfl, hge, hK1, hE1, hE3, hE4⟩ hK
    have kp : ∀ (S : Nat → Prop) (W : World), ¬ S D → Keep S W (W.putObj D (.deferred none)) := fun S W h => Keep.putObj _ _ _ h
    clear hxs
    gi_wp2
    refine ⟨by simp, .inl ⟨_, _, rfl, run_takeDeferred hK, ?_⟩⟩
    refine ⟨_, Host.results_bool rfl _ _ (w.heap.size + 2) _ rfl ((kp (fun b => b = w.heap.size + 2) _ (by omega)).boxed hE1 rfl).cell, ?_, ?_⟩
    · rw [hE3]
    · exact hE4.trans ((kp (fun b => b < w.heap.size) _ (by omega)).below hE4.size)
end Go.Proofs.YtedglpfdibamdaaGreatDoor.Frm
namespace Go.Proofs.YtedglpfdibamdaaGreatDoor.Pol
open Go.RowKit Go.Shelf Url Org Frm Cls
attribute [local go_sem] Oper.semAt_some
set_option linter.unusedVariables false
structure Clo (w : World) (b : Nat) (name : List UInt8) (ft : TypeId) (F : Nat) (pt : TypeId) (a : Addr) : Prop where
  name : Boxed w b 9 (.string ⟨name.toArray⟩)
  parse : Boxed w (b + 1) ft (.func (.func F) #[] #[])
  place : Boxed w (b + 2) pt (.pointer (some a))
theorem Clo.on {w w' : World} {b : Nat} {name : List UInt8} {ft : TypeId} {F : Nat} {pt : TypeId} {a : Addr} (h : Clo w b name ft F pt a) (hb : Below w.heap.size w w') : Clo w' b name ft F pt a :=
  ⟨(Keep.of_below hb).boxed h.name h.name.lt, (Keep.of_below hb).boxed h.parse h.parse.lt, (Keep.of_below hb).boxed h.place h.place.lt⟩
theorem Clo.keep {w w' : World} {P : Nat} {b : Nat} {name : List UInt8} {ft : TypeId} {F : Nat} {pt : TypeId} {a : Addr} (h : Clo w b name ft F pt a) (hk : Keep (fun b => b ≠ P) w w') (hP : P < b) : Clo w' b name ft F pt a :=
  ⟨hk.boxed h.name (by omega), hk.boxed h.parse (by omega), hk.boxed h.place (by omega)⟩
def cloV (G b : Nat) : Value := .func (.func G) #[] #[.pointer (some ⟨b, 0, none⟩), .pointer (some ⟨b + 1, 0, none⟩), .pointer (some ⟨b + 2, 0, none⟩)]
theorem takesLab_any (name : List UInt8) (a : Addr) (w : World) :
    Calls Tryz.prog 49 #[.string ⟨name.toArray⟩, .func (.func 50) #[] #[], .pointer (some a)] w fun e w' => ∃ b, e = .returned (cloV 79 b) ∧ w.heap.size ≤ b ∧ Clo w' b name 105 50 106 a ∧ Below w.heap.size w w' := by
  have A1 : Below w.heap.size w (((w.alloc (.cells #[.string ⟨name.toArray⟩] 9)).alloc (.cells #[.func (.func 50) #[] #[]] 105)).alloc (.cells #[.pointer (some a)] 106)) := (((Below.refl _ w).alloc (Nat.le_refl _) _).alloc (by simp) _).alloc (by simp; omega) _
  have b1 := (Boxed.new (w.alloc (.cells #[.string ⟨name.toArray⟩] 9)) 105 (.func (.func 50) #[] #[])).alloc (.cells #[.pointer (some a)] 106)
  have b2 := Boxed.new ((w.alloc (.cells #[.string ⟨name.toArray⟩] 9)).alloc (.cells #[.func (.func 50) #[] #[]] 105)) 106 (.pointer (some a))
  rw [World.size_alloc] at b1
  rw [World.size_alloc, World.size_alloc] at b2
  go_enter Tryz.func49, Tryz.ntmps49
  go_wp2
  go_ret
  exact ⟨w.heap.size, rfl, Nat.le_refl _, ⟨((Boxed.new w _ _).alloc _).alloc _, b1, b2⟩, A1⟩
theorem takesFrm_any (name : List UInt8) (a : Addr) (w : World) :
    Calls Tryz.prog 51 #[.string ⟨name.toArray⟩, .func (.func 52) #[] #[], .pointer (some a)] w fun e w' => ∃ b, e = .returned (cloV 82 b) ∧ w.heap.size ≤ b ∧ Clo w' b name 108 52 109 a ∧ Below w.heap.size w w' := by
  have A1 : Below w.heap.size w (((w.alloc (.cells #[.string ⟨name.toArray⟩] 9)).alloc (.cells #[.func (.func 52) #[] #[]] 108)).alloc (.cells #[.pointer (some a)] 109)) := (((Below.refl _ w).alloc (Nat.le_refl _) _).alloc (by simp) _).alloc (by simp; omega) _
  have b1 := (Boxed.new (w.alloc (.cells #[.string ⟨name.toArray⟩] 9)) 108 (.func (.func 52) #[] #[])).alloc (.cells #[.pointer (some a)] 109)
  have b2 := Boxed.new ((w.alloc (.cells #[.string ⟨name.toArray⟩] 9)).alloc (.cells #[.func (.func 52) #[] #[]] 108)) 109 (.pointer (some a))
  rw [World.size_alloc] at b1
  rw [World.size_alloc, World.size_alloc] at b2
  go_enter Tryz.func51, Tryz.ntmps51
  go_wp2
  go_ret
  exact ⟨w.heap.size, rfl, Nat.le_refl _, ⟨((Boxed.new w _ _).alloc _).alloc _, b1, b2⟩, A1⟩
theorem takesSrc_any (name : List UInt8) (a : Addr) (w : World) :
    Calls Tryz.prog 53 #[.string ⟨name.toArray⟩, .func (.func 19) #[] #[], .pointer (some a)] w fun e w' => ∃ b, e = .returned (cloV 85 b) ∧ w.heap.size ≤ b ∧ Clo w' b name 56 19 111 a ∧ Below w.heap.size w w' := by
  have A1 : Below w.heap.size w (((w.alloc (.cells #[.string ⟨name.toArray⟩] 9)).alloc (.cells #[.func (.func 19) #[] #[]] 56)).alloc (.cells #[.pointer (some a)] 111)) := (((Below.refl _ w).alloc (Nat.le_refl _) _).alloc (by simp) _).alloc (by simp; omega) _
  have b1 := (Boxed.new (w.alloc (.cells #[.string ⟨name.toArray⟩] 9)) 56 (.func (.func 19) #[] #[])).alloc (.cells #[.pointer (some a)] 111)
  have b2 := Boxed.new ((w.alloc (.cells #[.string ⟨name.toArray⟩] 9)).alloc (.cells #[.func (.func 19) #[] #[]] 56)) 111 (.pointer (some a))
  rw [World.size_alloc] at b1
  rw [World.size_alloc, World.size_alloc] at b2
  go_enter Tryz.func53, Tryz.ntmps53
  go_wp2
  go_ret
  exact ⟨w.heap.size, rfl, Nat.le_refl _, ⟨((Boxed.new w _ _).alloc _).alloc _, b1, b2⟩, A1⟩
def FB6 (B : Nat) (cs : Array Value) (X : World) : Prop := X.heap[B]? = some (.cells cs 68 (0, 0))
theorem FB6.box {B : Nat} {cs : Array Value} {X : World} (h : FB6 B cs X) : Box B cs X := fun i x hx => by
  simp only [World.cell?, show X.heap[B]? = _ from h]; exact hx
theorem FB6.keep {B : Nat} {cs : Array Value} {S : Nat → Prop} {X Y : World} (h : FB6 B cs X) (hk : Keep S X Y) (hS : S B) : FB6 B cs Y := (hk.block B (Array.getElem?_eq_some_iff.1 h).1 hS).trans h
theorem FB6.new (w : World) (cs : Array Value) : FB6 w.heap.size cs (w.alloc (.cells cs 68)) := World.alloc_heap_new w _
def FldsAt (P : Nat) (w0 : World) (g : Nat) (w : World) : Prop := ∃ b0 b1 b2 b3 b4 b5 : Nat, FB6 g #[cloV 79 b0, cloV 79 b1, cloV 79 b2, cloV 82 b3, cloV 85 b4, cloV 85 b5] w ∧ (w0.heap.size ≤ b0 ∧ Clo w b0 dataS 105 50 106 ⟨P, 0, none⟩) ∧ (w0.heap.size ≤ b1 ∧ Clo w b1 ctxS 105 50 106 ⟨P, 2, none⟩) ∧ (w0.heap.size ≤ b2 ∧ Clo w b2 clrS 105 50 106 ⟨P, 4, none⟩) ∧ (w0.heap.size ≤ b3 ∧ Clo w b3 prvS 108 52 109 ⟨P, 6, none⟩) ∧ (w0.heap.size ≤ b4 ∧ Clo w b4 conS 56 19 111 ⟨P, 7, none⟩) ∧ (w0.heap.size ≤ b5 ∧ Clo w b5 frmS 56 19 111 ⟨P, 8, none⟩)
set_option maxRecDepth 100000 in
set_option maxHeartbeats 8000000 in
theorem fields_any (P : Nat) (w0 : World) :
    Calls Tryz.prog 26 #[.pointer (some ⟨P, 0, none⟩)] w0 fun e w' => ∃ g, e = .returned (.slice (some ⟨g, 0, none⟩) 6 6) ∧ w0.heap.size ≤ g ∧ FldsAt P w0 g w' ∧ Below w0.heap.size w0 w' := by
  obtain ⟨wd, hwd⟩ : ∃ Z, w0.drew = Z := ⟨_, rfl⟩
  have A0 : Below w0.heap.size w0 wd := hwd ▸ ⟨rfl, rfl, rfl, Nat.le_refl _, fun _ _ => rfl⟩
  have HWD := Lib.hid hwd
  clear hwd
  go_enter Tryz.func26, Tryz.ntmps26
  go_wp2_with fail
  refine pregion_any (fun _ => True) (by kernel_rfl) ?_
  rw [HWD.out]
  refine wpAnyH_take (i := 0) (v := (.pointer (some ⟨P, 0, none⟩))) rfl (by kernel_rfl) (by kernel_rfl) (by kernel_rfl) (fun _ _ _ h => h) (.inl ⟨by kernel_rfl, ?_⟩) trivial ?_
  · rintro w _; go_simp <;> omega
  refine plist #[true, false, false, false, false, false, false, false, false, false, false, false, false, false, false, false, false, false, false, false, false, false, false, false, false, false] (by kernel_rfl) ?_
  refine wpAnyH_take (i := 1) (v := (.pointer (some ⟨P, 0, none⟩))) rfl (by kernel_rfl) (by kernel_rfl) (by kernel_rfl) (fun _ _ _ h => h) (.inl ⟨by kernel_rfl, ?_⟩) trivial ?_
  · rintro w _; go_simp <;> omega
  refine plist #[true, true, false, false, false, false, false, false, false, false, false, false, false, false, false, false, false, false, false, false, false, false, false, false, false, false] (by kernel_rfl) ?_
  refine wpAnyH_take (i := 2) (v := (.pointer (some ⟨P, 0, none⟩))) rfl (by kernel_rfl) (by kernel_rfl) (by kernel_rfl) (fun _ _ _ h => h) (.inl ⟨by kernel_rfl, ?_⟩) trivial ?_
  · rintro w _; go_simp <;> omega
  refine plist #[true, true, true, false, false, false, false, false, false, false, false, false, false, false, false, false, false, false, false, false, false, false, false, false, false, false] (by kernel_rfl) ?_
  refine wpAnyH_take (i := 4) (v := (.pointer (some ⟨P, 0, none⟩))) rfl (by kernel_rfl) (by kernel_rfl) (by kernel_rfl) (fun _ _ _ h => h) (.inl ⟨by kernel_rfl, ?_⟩) trivial ?_
  · rintro w _; go_simp <;> omega
  refine plist #[true, true, true, false, true, false, false, false, false, false, false, false, false, false, false, false, false, false, false, false, false, false, false, false, false, false] (by kernel_rfl) ?_
  refine wpAnyH_take (i := 5) (v := (.pointer (some ⟨P, 0, none⟩))) rfl (by kernel_rfl) (by kernel_rfl) (by kernel_rfl) (fun _ _ _ h => h) (.inl ⟨by kernel_rfl, ?_⟩) trivial ?_
  · rintro w _; go_simp <;> omega
  refine plist #[true, true, true, false, true, true, false, false, false, false, false, false, false, false, false, false, false, false, false, false, false, false, false, false, false, false] (by kernel_rfl) ?_
  refine wpAnyH_take (i := 6) (v := (.pointer (some ⟨P, 2, none⟩))) rfl (by kernel_rfl) (by kernel_rfl) (by kernel_rfl) (fun _ _ _ h => h) (.inl ⟨by kernel_rfl, ?_⟩) trivial ?_
  · rintro w _; go_simp <;> omega
  refine plist #[true, true, true, false, true, true, true, false, false, false, false, false, false, false, false, false, false, false, false, false, false, false, false, false, false, false] (by kernel_rfl) ?_
  refine wpAnyH_take (i := 8) (v := (.pointer (some ⟨P, 0, none⟩))) rfl (by kernel_rfl) (by kernel_rfl) (by kernel_rfl) (fun _ _ _ h => h) (.inl ⟨by kernel_rfl, ?_⟩) trivial ?_
  · rintro w _; go_simp <;> omega
  refine plist #[true, true, true, false, true, true, true, false, true, false, false, false, false, false, false, false, false, false, false, false, false, false, false, false, false, false] (by kernel_rfl) ?_
  refine wpAnyH_take (i := 9) (v := (.pointer (some ⟨P, 0, none⟩))) rfl (by kernel_rfl) (by kernel_rfl) (by kernel_rfl) (fun _ _ _ h => h) (.inl ⟨by kernel_rfl, ?_⟩) trivial ?_
  · rintro w _; go_simp <;> omega
  refine plist #[true, true, true, false, true, true, true, false, true, true, false, false, false, false, false, false, false, false, false, false, false, false, false, false, false, false] (by kernel_rfl) ?_
  refine wpAnyH_take (i := 10) (v := (.pointer (some ⟨P, 4, none⟩))) rfl (by kernel_rfl) (by kernel_rfl) (by kernel_rfl) (fun _ _ _ h => h) (.inl ⟨by kernel_rfl, ?_⟩) trivial ?_
  · rintro w _; go_simp <;> omega
  refine plist #[true, true, true, false, true, true, true, false, true, true, true, false, false, false, false, false, false, false, false, false, false, false, false, false, false, false] (by kernel_rfl) ?_
  refine wpAnyH_take (i := 12) (v := (.pointer (some ⟨P, 0, none⟩))) rfl (by kernel_rfl) (by kernel_rfl) (by kernel_rfl) (fun _ _ _ h => h) (.inl ⟨by kernel_rfl, ?_⟩) trivial ?_
  · rintro w _; go_simp <;> omega
  refine plist #[true, true, true, false, true, true, true, false, true, true, true, false, true, false, false, false, false, false, false, false, false, false, false, false, false, false] (by kernel_rfl) ?_
  refine wpAnyH_take (i := 13) (v := (.pointer (some ⟨P, 0, none⟩))) rfl (by kernel_rfl) (by kernel_rfl) (by kernel_rfl) (fun _ _ _ h => h) (.inl ⟨by kernel_rfl, ?_⟩) trivial ?_
  · rintro w _; go_simp <;> omega
  refine plist #[true, true, true, false, true, true, true, false, true, true, true, false, true, true, false, false, false, false, false, false, false, false, false, false, false, false] (by kernel_rfl) ?_
  refine wpAnyH_take (i := 14) (v := (.pointer (some ⟨P, 6, none⟩))) rfl (by kernel_rfl) (by kernel_rfl) (by kernel_rfl) (fun _ _ _ h => h) (.inl ⟨by kernel_rfl, ?_⟩) trivial ?_
  · rintro w _; go_simp <;> omega
  refine plist #[true, true, true, false, true, true, true, false, true, true, true, false, true, true, true, false, false, false, false, false, false, false, false, false, false, false] (by kernel_rfl) ?_
  refine wpAnyH_take (i := 16) (v := (.pointer (some ⟨P, 0, none⟩))) rfl (by kernel_rfl) (by kernel_rfl) (by kernel_rfl) (fun _ _ _ h => h) (.inl ⟨by kernel_rfl, ?_⟩) trivial ?_
  · rintro w _; go_simp <;> omega
  refine plist #[true, true, true, false, true, true, true, false, true, true, true, false, true, true, true, false, true, false, false, false, false, false, false, false, false, false] (by kernel_rfl) ?_
  refine wpAnyH_take (i := 17) (v := (.pointer (some ⟨P, 0, none⟩))) rfl (by kernel_rfl) (by kernel_rfl) (by kernel_rfl) (fun _ _ _ h => h) (.inl ⟨by kernel_rfl, ?_⟩) trivial ?_
  · rintro w _; go_simp <;> omega
  refine plist #[true, true, true, false, true, true, true, false, true, true, true, false, true, true, true, false, true, true, false, false, false, false, false, false, false, false] (by kernel_rfl) ?_
  refine wpAnyH_take (i := 18) (v := (.pointer (some ⟨P, 7, none⟩))) rfl (by kernel_rfl) (by kernel_rfl) (by kernel_rfl) (fun _ _ _ h => h) (.inl ⟨by kernel_rfl, ?_⟩) trivial ?_
  · rintro w _; go_simp <;> omega
  refine plist #[true, true, true, false, true, true, true, false, true, true, true, false, true, true, true, false, true, true, true, false, false, false, false, false, false, false] (by kernel_rfl) ?_
  refine wpAnyH_take (i := 20) (v := (.pointer (some ⟨P, 0, none⟩))) rfl (by kernel_rfl) (by kernel_rfl) (by kernel_rfl) (fun _ _ _ h => h) (.inl ⟨by kernel_rfl, ?_⟩) trivial ?_
  · rintro w _; go_simp <;> omega
  refine plist #[true, true, true, false, true, true, true, false, true, true, true, false, true, true, true, false, true, true, true, false, true, false, false, false, false, false] (by kernel_rfl) ?_
  refine wpAnyH_take (i := 21) (v := (.pointer (some ⟨P, 0, none⟩))) rfl (by kernel_rfl) (by kernel_rfl) (by kernel_rfl) (fun _ _ _ h => h) (.inl ⟨by kernel_rfl, ?_⟩) trivial ?_
  · rintro w _; go_simp <;> omega
  refine plist #[true, true, true, false, true, true, true, false, true, true, true, false, true, true, true, false, true, true, true, false, true, true, false, false, false, false] (by kernel_rfl) ?_
  refine wpAnyH_take (i := 22) (v := (.pointer (some ⟨P, 8, none⟩))) rfl (by kernel_rfl) (by kernel_rfl) (by kernel_rfl) (fun _ _ _ h => h) (.inl ⟨by kernel_rfl, ?_⟩) trivial ?_
  · rintro w _; go_simp <;> omega
  refine plist #[true, true, true, false, true, true, true, false, true, true, true, false, true, true, true, false, true, true, true, false, true, true, true, false, false, false] (by kernel_rfl) ?_
  have con := takesLab_any dataS ⟨P, 0, none⟩ wd
  refine pone 3 (by kernel_rfl) rfl fun K hK => ?_
  go_simp
  refine con.mono ?_
  rintro e w1 ⟨b0, rfl, h0, k0, hb⟩
  have A1 := A0.trans (hb.mono A0.size)
  clear con hb 
  refine hK _ _ trivial ?_
  clear hK K
  refine plist #[true, true, true, true, true, true, true, false, true, true, true, false, true, true, true, false, true, true, true, false, true, true, true, false, false, false] (by kernel_rfl) ?_
  have con := takesLab_any ctxS ⟨P, 2, none⟩ w1
  refine pone 7 (by kernel_rfl) rfl fun K hK => ?_
  go_simp
  refine con.mono ?_
  rintro e w2 ⟨b1, rfl, h1, k1, hb⟩
  replace k0 := k0.on hb
  have A2 := A1.trans (hb.mono A1.size)
  clear con hb 
  refine hK _ _ trivial ?_
  clear hK K
  refine plist #[true, true, true, true, true, true, true, true, true, true, true, false, true, true, true, false, true, true, true, false, true, true, true, false, false, false] (by kernel_rfl) ?_
  have con := takesLab_any clrS ⟨P, 4, none⟩ w2
  refine pone 11 (by kernel_rfl) rfl fun K hK => ?_
  go_simp
  refine con.mono ?_
  rintro e w3 ⟨b2, rfl, h2, k2, hb⟩
  replace k0 := k0.on hb
  replace k1 := k1.on hb
  have A3 := A2.trans (hb.mono A2.size)
  clear con hb 
  refine hK _ _ trivial ?_
  clear hK K
  refine plist #[true, true, true, true, true, true, true, true, true, true, true, true, true, true, true, false, true, true, true, false, true, true, true, false, false, false] (by kernel_rfl) ?_
  have con := takesFrm_any prvS ⟨P, 6, none⟩ w3
  refine pone 15 (by kernel_rfl) rfl fun K hK => ?_
  go_simp
  refine con.mono ?_
  rintro e w4 ⟨b3, rfl, h3, k3, hb⟩
  replace k0 := k0.on hb
  replace k1 := k1.on hb
  replace k2 := k2.on hb
  have A4 := A3.trans (hb.mono A3.size)
  clear con hb 
  refine hK _ _ trivial ?_
  clear hK K
  refine plist #[true, true, true, true, true, true, true, true, true, true, true, true, true, true, true, true, true, true, true, false, true, true, true, false, false, false] (by kernel_rfl) ?_
  have con := takesSrc_any conS ⟨P, 7, none⟩ w4
  refine pone 19 (by kernel_rfl) rfl fun K hK => ?_
  go_simp
  refine con.mono ?_
  rintro e w5 ⟨b4, rfl, h4, k4, hb⟩
  replace k0 := k0.on hb
  replace k1 := k1.on hb
  replace k2 := k2.on hb
  replace k3 := k3.on hb
  have A5 := A4.trans (hb.mono A4.size)
  clear con hb 
  refine hK _ _ trivial ?_
  clear hK K
  refine plist #[true, true, true, true, true, true, true, true, true, true, true, true, true, true, true, true, true, true, true, true, true, true, true, false, false, false] (by kernel_rfl) ?_
  have con := takesSrc_any frmS ⟨P, 8, none⟩ w5
  refine pone 23 (by kernel_rfl) rfl fun K hK => ?_
  go_simp
  refine con.mono ?_
  rintro e w6 ⟨b5, rfl, h5, k5, hb⟩
  replace k0 := k0.on hb
  replace k1 := k1.on hb
  replace k2 := k2.on hb
  replace k3 := k3.on hb
  replace k4 := k4.on hb
  have A6 := A5.trans (hb.mono A5.size)
  clear con hb 
  refine hK _ _ trivial ?_
  clear hK K
  unfold cloV
  refine plist #[true, true, true, true, true, true, true, true, true, true, true, true, true, true, true, true, true, true, true, true, true, true, true, true, false, false] (by kernel_rfl) ?_
  refine pone 24 (by kernel_rfl) rfl fun K hK => ?_
  go_simp
  refine hK _ _ trivial ?_
  clear hK K
  refine plist #[true, true, true, true, true, true, true, true, true, true, true, true, true, true, true, true, true, true, true, true, true, true, true, true, true, false] (by kernel_rfl) ?_
  refine pone 25 (by kernel_rfl) rfl fun K hK => ?_
  go_simp
  refine hK _ _ trivial ?_
  clear hK K
  refine pdone (by kernel_rfl) ?_ _
  go_wp2
  go_ret
  exact ⟨w6.heap.size, rfl, A6.size, ⟨b0, b1, b2, b3, b4, b5, FB6.new w6 _, ⟨by have := A0.size; omega, k0.on (below_alloc _)⟩, ⟨by have := A1.size; omega, k1.on (below_alloc _)⟩, ⟨by have := A2.size; omega, k2.on (below_alloc _)⟩, ⟨by have := A3.size; omega, k3.on (below_alloc _)⟩, ⟨by have := A4.size; omega, k4.on (below_alloc _)⟩, ⟨by have := A5.size; omega, k5.on (below_alloc _)⟩⟩, A6.alloc A6.size _⟩
end Go.Proofs.YtedglpfdibamdaaGreatDoor.Pol
namespace Go.Proofs.YtedglpfdibamdaaGreatDoor.Frm
open Go.RowKit Go.Shelf Go.Sort Url Org Cls
attribute [local go_sem] Oper.semAt_some
set_option linter.unusedVariables false
theorem results_cell_cell {fn : Func} {p u : Tmp} {ty ty2 : TypeId} (h : fn.results = #[.cell p ty, .cell u ty2]) (tmps : Array Value) (P : Program) (w : World) :
    (results fn tmps).run P w =
      ((asAddr (tmps.getD p undef)).run P w).andThen fun a w₁ => ((loadVar ty a).run P w₁).andThen fun v w₂ => ((asAddr (tmps.getD u undef)).run P w₂).andThen fun b w₃ => ((loadVar ty2 b).run P w₃).andThen fun x w₄ => .ok (.tuple #[v, x]) w₄ := by
  simp only [results, h]
  simp [Sem.run_bind, Result.andThen]
theorem ret_frm22 {fn : Func} {p u : Tmp} (h : fn.results = #[.cell p 31, .cell u 43]) (tmps : Array Value) (w : World) (B Be : Nat) (v x : Value) (hp : tmps.getD p undef = .pointer (some ⟨B, 0, none⟩)) (hu : tmps.getD u undef = .pointer (some ⟨Be, 0, none⟩)) (hU : Boxed w B 31 v) (hE : w.cell? ⟨Be, 0, none⟩ = some x) :
    (results fn tmps).run Tryz.prog w = .ok (.tuple #[.agg #[v], x]) w := by
  rw [results_cell_cell h, hp, hu]
  have ha : ∀ w', (isAgg 43).run Tryz.prog w' = .ok false w' := Tryz.isAgg43
  have h2 : (loadVar 43 ⟨Be, 0, none⟩).run Tryz.prog w = .ok x w := by simp [loadVar, ha, hE]
  simp [asAddr, Result.andThen, run_loadVar_row w B 31 _ #[v] (0, 0) _ hU Tryz.underlying31 rfl (by kernel_rfl), h2]
theorem clauses_snoc (x : List UInt8) (c : List (List UInt8)) (hx : parseC x = .inr c) : ∀ (pre : List (List UInt8)) (r : List (List (List UInt8))), clausesL pre = .inr r → clausesL (pre ++ [x]) = .inr (r ++ [c])
  | [], r, h => by
    cases h
    show clausesL [x] = _
    unfold clausesL
    rw [hx]; rfl
  | p :: l, r, h => by
    unfold clausesL at h
    split at h
    · cases h
    · rename_i y hy
      split at h
      · cases h
      · rename_i z hz
        cases h
        have := clauses_snoc x c hx l z hz
        rw [List.cons_append]
        unfold clausesL
        rw [hy]
        simp only
        rw [this]; rfl
theorem clauses_err (x : List UInt8) (e : Int) (hx : parseC x = .inl e) (rest : List (List UInt8)) : ∀ (pre : List (List UInt8)) (r : List (List (List UInt8))), clausesL pre = .inr r → clausesL (pre ++ x :: rest) = .inl e
  | [], r, h => by
    show clausesL (x :: rest) = _
    unfold clausesL
    rw [hx]
  | p :: l, r, h => by
    unfold clausesL at h
    split at h
    · cases h
    · rename_i y hy
      split at h
      · cases h
      · rename_i z hz
        have := clauses_err x e hx rest l z hz
        rw [List.cons_append]
        unfold clausesL
        rw [hy]
        simp only
        rw [this]
theorem parseC_no (t : List UInt8) (n : Int) (h : parseC t = .inl n) : n = 2 ∨ n = 3 := by
  unfold parseC at h
  split at h
  · cases h; exact .inr rfl
  · split at h
    · cases h
    · unfold ofC at h
      split at h
      · split at h
        · cases h
        · cases h; exact .inr rfl
      · cases h; exact .inl rfl
theorem parseF_long (t : List UInt8) (h : 4096 < t.length) : parseF t = .inl 3 := by unfold parseF; rw [if_pos h]
theorem parseF_always (t : List UInt8) (h : ¬ 4096 < t.length) (h2 : trimB t = alwaysS) : parseF t = .inr [] := by unfold parseF; rw [if_neg h, if_pos h2]
theorem parseF_err (t : List UInt8) (e : Int) (h : ¬ 4096 < t.length) (h2 : trimB t ≠ alwaysS) (h3 : clausesL ((splitX 38 t).map Prod.snd) = .inl e) : parseF t = .inl e := by
  rw [Host.splitX_snd] at h3
  unfold parseF; rw [if_neg h, if_neg h2, h3]
theorem parseF_of (t : List UInt8) (l : List (List (List UInt8))) (h : ¬ 4096 < t.length) (h2 : trimB t ≠ alwaysS) (h3 : clausesL ((splitX 38 t).map Prod.snd) = .inr l) : parseF t = ofF l := by
  rw [Host.splitX_snd] at h3
  unfold parseF; rw [if_neg h, if_neg h2, h3]
theorem FrmIs.put {w : World} {q : Option Addr} {n c : Nat} {f : List (List (List UInt8))} {D : Nat} {d : Option (List Deferred)} {o : Obj} (h : FrmIs w (.agg #[.slice q n c]) f) (hD : w.heap[D]? = some (.deferred d)) : FrmIs (w.putObj D o) (.agg #[.slice q n c]) f := by
  obtain ⟨h1, h2, zs, s, z, rfl⟩ := h.row
  exact ⟨q, n, c, rfl, h1, h2, zs, slC_put s hD, fun x hx => ⟨set_put (z x hx).set hD, (z x hx).few⟩, rfl⟩
theorem ClAt.from {S : Nat → Prop} {w w' : World} {z : Cl} (h : ClAt w z) (hk : Keep S w w') (hS : ∀ a, z.1.1 = some a → 0 < z.1.2.1 → S a.block) : ClAt w' z := by
  obtain ⟨⟨q, n, c, he, h1, h2, h3, h4⟩, h5⟩ := h
  cases he
  exact ⟨⟨_, _, _, rfl, h1, h2, h3.keep hk hS, h4⟩, h5⟩
theorem ClAt.lt {w : World} {z : Cl} (h : ClAt w z) : ∀ a, z.1.1 = some a → 0 < z.1.2.1 → a.block < w.heap.size := by
  obtain ⟨⟨q, n, c, he, h1, h2, h3, h4⟩, h5⟩ := h
  cases he
  exact h3.lt
def PfI (Bo : Nat) (RB : Nat → Prop) (W0 : World) (pre : List (Nat × List UInt8)) (Pv : Nat → Prop) (W : World) : Prop :=
  ∃ v, ∃ ls : List Cl, Boxed W Bo 29 v ∧ W.ownsRow W0.heap.size 77 1 v ls.length (ls.map encC) ∧ (∀ z ∈ ls, ClAt W z ∧ ∀ a, z.1.1 = some a → 0 < z.1.2.1 → ¬ Pv a.block ∧ W0.heap.size ≤ a.block ∧ v.ownBlock ≠ some a.block) ∧ clausesL (pre.map Prod.snd) = .inr (ls.map Prod.snd) ∧
    (∀ b, Pv b → W0.heap.size ≤ b) ∧ (∀ b, v.ownBlock = some b → ¬ Pv b) ∧ Keep RB W0 W ∧ ls.length = pre.length
theorem PfI_abide (Bo : Nat) (RB : Nat → Prop) (W0 : World) (hBo : Bo < W0.heap.size) (hRB : ∀ b, RB b → b < W0.heap.size) : Abide (PfI Bo RB W0) := by
  rintro pre Pv Pv' A B ⟨v, ls, h1, h2, hz, hc, h3, h5, h6, h7⟩ hk hp
  have hs := h6.size
  refine ⟨v, ls, hk.boxed h1 (fun h => by have := h3 _ h; omega), hk.row h2 h5, fun z hz' => ⟨(hz z hz').1.from hk (fun a ha h0 => ((hz z hz').2 a ha h0).1), fun a ha h0 => ⟨fun hp' => ?_, ((hz z hz').2 a ha h0).2⟩⟩, hc, fun b hb => ?_, fun b hb hp' => ?_, h6.trans (hk.mono fun b _ hb hpb => by have := h3 b hpb; have := hRB b hb; omega), h7⟩
  · rcases (hp _ hp').1 with h | h
    · exact ((hz z hz').2 a ha h0).1 h
    · have := (hz z hz').1.lt a ha h0; omega
  · rcases (hp b hb).1 with h | h
    · exact h3 b h
    · omega
  · rcases (hp _ hp').1 with h | h
    · exact h5 b hb h
    · have := (h2.lt b hb).2; omega
def PfX (w : World) (xs : List (Nat × List UInt8)) (W0 : World) (c : Code) (_ : List (Nat × List UInt8)) (Pv : Nat → Prop) (W : World) : Prop :=
  c = .ret ∧ ∃ n : Int, Boxed W w.heap.size 31 (.slice none 0 0) ∧ Boxed W (w.heap.size + 1) 43 (.int .i64 n) ∧ clausesL (xs.map Prod.snd) = .inl n ∧ Below w.heap.size w W ∧ (∀ b, Pv b → W0.heap.size ≤ b)
theorem PfX_abide (w : World) (xs : List (Nat × List UInt8)) (W0 : World) (h0 : w.heap.size + 2 ≤ W0.heap.size) (hW : True) (c : Code) : Abide (fun pre Pv W => PfX w xs W0 c pre Pv W ∧ W0.heap.size ≤ W.heap.size) := by
  rintro pre Pv Pv' A B ⟨⟨hc, n, h1, h2, h3, h4, h5⟩, h6⟩ hk hp
  have hs := hk.size
  refine ⟨⟨hc, n, hk.boxed h1 (fun h => by have := h5 _ h; omega), hk.boxed h2 (fun h => by have := h5 _ h; omega), h3, h4.trans ((hk.mono fun b _ hb hpb => by have := h5 b hpb; omega).below h4.size), fun b hb => ?_⟩, by omega⟩
  rcases (hp b hb).1 with h | h
  · exact h5 b h
  · omega
set_option maxRecDepth 100000 in
set_option maxHeartbeats 16000000 in
theorem Parse_any (q : Option Addr) (n c : Nat) (t : List UInt8) (w : World) (hby : By w (.slice q n c) t) (hn : n ≤ 1300 ∨ 4096 < n ∧ n ≤ 1099511627775) (hG : Gl w) :
    Calls Tryz.prog 52 #[.slice q n c] w (FrmOut (parseF t) w) := by
  obtain ⟨i0, hi0, hz0, hz1, hz2⟩ := info_parts info_cls
  have hl := hby.at.1
  obtain ⟨W1, hW1⟩ : ∃ W1, (w.alloc (.cells #[.slice none 0 0] 31)).alloc (.cells #[.int .i64 0] 43) = W1 := ⟨_, rfl⟩
  have A1 : Below w.heap.size w W1 := hW1 ▸ ((Below.refl _ w).alloc (Nat.le_refl _) _).alloc (by simp) _
  have bR : Boxed W1 w.heap.size 31 (.slice none 0 0) := hW1 ▸ (Boxed.new w _ _).alloc _
  have bE : Boxed W1 (w.heap.size + 1) 43 (.int .i64 0) := by
    have := Boxed.new (w.alloc (.cells #[.slice none 0 0] 31)) 43 (.int .i64 0)
    rw [World.size_alloc] at this
    exact hW1 ▸ this
  have hs1 : W1.heap.size = w.heap.size + 2 := by rw [← hW1]; simp
  have HW1 := Lib.hid hW1
  clear hW1
  refine (callsIn_wide (n := 1)).1 ?_
  refine callsIn_of_wp_marks Tryz.func52 rfl trivial ?_ rfl
  simp only [Tryz.ntmps52, List.size_toArray, List.length_cons, List.length_nil, Nat.reduceAdd, Nat.reduceSub, Array.replicate_succ, Array.replicate_zero, List.push_toArray, List.append_toArray, List.nil_append, List.cons_append]
  by_cases hbig : 4096 < n
  · have d : decide ((4096 : Int) < (n : Int)) = true := by simp; omega
    have HR := Lib.hid (parseF_long t (by omega))
    have b4 : Boxed ((w.alloc (.cells #[.slice none 0 0] 31)).alloc (.cells #[.int .i64 3] 43)) w.heap.size 31 (.slice none 0 0) := (Boxed.new w _ _).alloc _
    have e4 := (Boxed.new (w.alloc (.cells #[.slice none 0 0] 31)) 43 (.int .i64 3)).cell
    rw [World.size_alloc] at e4
    clear hby hl hn hG
    gi_wp2
    refine ⟨_, ret_frm22 rfl _ _ w.heap.size (w.heap.size + 1) _ _ rfl rfl b4 e4, ?_⟩
    rw [HR.out]
    exact ⟨none, 0, 0, rfl, frm_nil _, (fun a h => by cases h), ((Below.refl _ w).alloc (Nat.le_refl _) _).alloc (by simp) _⟩
  have hn2 : n ≤ 1300 := by omega
  have d : decide ((4096 : Int) < (n : Int)) = false := by simp; omega
  have hb1 := hby.on A1
  have con := Trim_by q n c t W1 hb1 (by omega)
  have HT := Lib.hid (trim_len t)
  have HG := Lib.hid hG
  have HL := Lib.hid hl
  have HP1 := Lib.hid (fun h2 => parseF_always t (by omega) h2)
  have HP2 := Lib.hid (fun h2 l h3 => parseF_of t l (by omega) h2 h3)
  have HP3 := Lib.hid (fun h2 e h3 => parseF_err t e (by omega) h2 h3)
  clear hby hn hG
  obtain ⟨T, hT⟩ : ∃ T, Cls.trimB t = T := ⟨_, rfl⟩
  rw [hT] at con HP1 HP2 HP3 HT
  clear hT hbig
  gi_wp2_with fail
  rw [HW1.out]
  gi_wp2_with fail
  refine ⟨trivial, (callsIn_wide.2 con).mono ?_⟩
  rintro e W2 ⟨q2, c2, rfl, hb2, hbel⟩
  have hcv := conv_by hb2
  have hb0 := hb1.on hbel
  replace bR := (Keep.of_below hbel).boxed bR bR.lt
  replace bE := (Keep.of_below hbel).boxed bE bE.lt
  have A2 := A1.trans (hbel.mono A1.size)
  have hs2 := hbel.size
  have e1 : (T == [97, 108, 119, 97, 121, 115]) = decide (T = alwaysS) := by
    rw [Bool.eq_iff_iff, beq_iff_eq, decide_eq_true_iff]; rfl
  generalize hlT : T.length = m at *
  clear con hb1 hb2 hbel hlT HW1
  by_cases hnv : T = alwaysS
  · have HR := Lib.hid (HP1.out hnv)
    rw [decide_eq_true hnv] at e1
    have con := Always_any W2
    clear hnv HP1 HP2 HP3 hb0
    gi_wp2_with fail
    refine ⟨trivial, (callsIn_wide.2 con).mono ?_⟩
    rintro e W3 ⟨rfl, hb3⟩
    replace bR := (Keep.of_below hb3).boxed bR bR.lt
    replace bE := (Keep.of_below hb3).boxed bE bE.lt
    have A3 := A2.trans (hb3.mono A2.size)
    have kf := bR.frozen
    have kc := bR.cell
    have b3 := (bR.set (.slice none 0 0))
    have e3 := (Keep.setCell (S := fun b => b = w.heap.size + 1) W3 ⟨w.heap.size, 0, none⟩ (.slice none 0 0) (by simp)).boxed bE rfl
    have ef3 := e3.frozen
    have ec3 := e3.cell
    have b4 := (Keep.setCell (S := fun b => b = w.heap.size) (W3.setCell ⟨w.heap.size, 0, none⟩ (.slice none 0 0)) ⟨w.heap.size + 1, 0, none⟩ (.int .i64 0) (by simp)).boxed b3 rfl
    have e4 := (e3.set (.int .i64 0)).cell
    clear con hb3
    gi_wp2
    refine ⟨_, ret_frm22 rfl _ _ w.heap.size (w.heap.size + 1) _ _ rfl rfl b4 e4, ?_⟩
    rw [HR.out]
    exact ⟨none, 0, 0, rfl, frm_nil _, (fun a h => by cases h), (A3.setCell (by simp) _).setCell (by simp) _⟩
  have HN := Lib.hid hnv
  rw [decide_eq_false hnv] at e1
  clear hnv HP1
  obtain ⟨h1, h2, h3, h4, h5⟩ := hb0.at
  obtain ⟨W3, hW3⟩ : ∃ W3, W2.alloc (.cells #[.slice none 0 0] 29) = W3 := ⟨_, rfl⟩
  have b0 : Boxed W3 W2.heap.size 29 (.slice none 0 0) := hW3 ▸ Boxed.new W2 _ _
  have hB3 : Below W2.heap.size W2 W3 := hW3 ▸ below_alloc _
  have hs3 : W3.heap.size = W2.heap.size + 1 := by rw [← hW3]; simp
  have con := Split_any q n c 38 t W3 h1 (by omega) (bytes_keep h5 (Keep.of_below hB3) (fun a h1 h2 => bytes_lt h5 a h1 h2))
  have hsm := Lib.hid (splitX_small 38 t n hl)
  have hlx := Lib.hid (show (splitX 38 t).length ≤ n + 1 by have := splitX_len 38 t; omega)
  have HW3 := Lib.hid hW3
  clear hW3 h1 h2 h3 h4 h5 hb0
  gi_wp2_with fail
  rw [HW3.out]
  refine ⟨trivial, (callsIn_wide.2 con).mono ?_⟩
  rintro e W4 ⟨B, v', rfl, hB, hBc, hrow, hBl, hbel⟩
  have hit := Split_iter (by omega) hB hBc hrow
  obtain ⟨RB, hRB⟩ : ∃ RB : Nat → Prop, RB = fun b => b = B ∨ b = W3.heap.size ∨ v'.ownBlock = some b := ⟨_, rfl⟩
  have hRl : ∀ b, RB b → W2.heap.size + 1 ≤ b ∧ b < W4.heap.size := fun b hb => by
    rw [hRB] at hb
    rcases hb with rfl | rfl | hb
    · exact ⟨by omega, hB.lt⟩
    · exact ⟨by omega, hBc.lt⟩
    · have := hrow.lt b hb; exact ⟨by omega, this.2⟩
  rw [← hRB, hs3] at hit
  have hB4 : Below W2.heap.size W2 W4 := hB3.trans (hbel.mono (by omega))
  replace b0 := (Keep.of_below hbel).boxed b0 (by omega)
  replace bR := (Keep.of_below hB4).boxed bR bR.lt
  replace bE := (Keep.of_below hB4).boxed bE bE.lt
  have A4 := A2.trans (hB4.mono A2.size)
  have hs4 := hbel.size
  have hsA := A2.size
  have hs12 : w.heap.size + 2 ≤ W2.heap.size := by omega
  clear con hB hBc hrow hBl hbel HW3 hRB hB3 hB4
  generalize splitX 38 t = xs at *
  gi_wp2
  refine rf_law (gf := 119) (lb := #[.pointer (some ⟨B, 0, none⟩), .pointer (some ⟨W2.heap.size + 1, 0, none⟩)]) rfl (enters_of Tryz.func119 (by kernel_rfl) rfl)
    hit (Keep.refl _ _) (fun b hb => (hRl b hb).2) (fun x args G W h => by obtain ⟨v, rfl, _⟩ := h; rfl)
    (PfI W2.heap.size (fun b => b < W2.heap.size) W4) (fun cc pre Pv W => PfX w xs W4 cc pre Pv W ∧ W4.heap.size ≤ W.heap.size) (PfI_abide _ _ _ (by omega) (fun b hb => by omega)) (PfX_abide w xs W4 (by omega) trivial)
    ⟨_, [], b0, World.ownsRow_nil _ _ _ _, (fun z hz => by cases hz), rfl, (fun _ h => h.elim), (fun _ h => by cases h), Keep.refl _ _, rfl⟩ ?round ?done ?stop
  case round =>
    rintro ll pre ⟨xi, x⟩ rest Pv G args Wr hll hxs ⟨v, ls, hbx, hrow, hzs, hcl, hge, hnv, hKW, hll2⟩ hPl hGl hPb hGP ⟨p, rfl, hp, rfl⟩
    have hxl := hsm.out (xi, x) (by rw [hxs]; simp)
    have hpl : pre.length + 1 ≤ n + 1 := by
      have h1 := hlx.out
      rw [hxs, List.length_append, List.length_cons] at h1
      omega
    simp only at hxl hp
    obtain ⟨qx, cx, rfl, _, hnc, hcm, hbs, hblk⟩ := row_open hp
    have hbyx : By Wr (.slice qx x.length cx) x := By.row hp
    have hxm := Lib.hid hxs
    clear hxs
    gi_wp2
    refine ⟨Keep.refl _ _, fun W5 hk5 hs5 r hr => ?_⟩
    have hnP : ∀ b, b < W4.heap.size → ¬ Pv b := fun b hb h => by have := hge b h; omega
    have hk5' : Keep (fun b => ¬ Pv b) Wr W5 := hk5.mono fun b _ hb h => hb (h ▸ hPl)
    replace hbx := hk5'.boxed hbx (hnP _ (by omega))
    replace hrow := hk5'.row hrow hnv
    replace hzs : ∀ z ∈ ls, ClAt W5 z ∧ ∀ a, z.1.1 = some a → 0 < z.1.2.1 → ¬ Pv a.block ∧ W4.heap.size ≤ a.block ∧ v.ownBlock ≠ some a.block := fun z hz => ⟨(hzs z hz).1.from hk5' (fun a ha h0 => ((hzs z hz).2 a ha h0).1), (hzs z hz).2⟩
    have hK5 : Keep (fun b => b < W2.heap.size) W4 W5 := hKW.trans (hk5'.mono fun b _ hb => hnP b (by omega))
    have hPl5 : ∀ b, Pv b → b < W5.heap.size := fun b hb => by rw [hs5]; exact hPb b hb
    have gx : Keep (fun b => (Value.slice qx x.length cx).ownBlock = some b) Wr W5 := hk5.mono fun b _ hb h => hGl (h ▸ hb)
    have hbs5 : Lib.BytesIn W5 qx x.length (Lib.numsL x) := bytes_keep hbs gx (fun a ha _ => (hblk a ha).2.2)
    have hby5 : By W5 (.slice qx x.length cx) x := by
      obtain ⟨g1, g2, g3, g4, _⟩ := hbyx.at
      exact By.of g1 g2 g3 (fun h => (g4 h).2) hbs5
    have hszW := hK5.size
    have A5 : Below w.heap.size w W5 := A4.trans ((hK5.mono fun b _ h => by omega).below (by omega))
    have con := Cls.Parse_new qx x.length cx x W5 hby5 (.inl (by omega)) (HG.out.on A5)
    clear hr hk5 hk5' hs5 hKW hbs hp hbyx hblk gx hbs5 hby5
    have bR5 := hK5.boxed bR (by omega)
    have bE5 := hK5.boxed bE (by omega)
    cases hpc : parseC x with
    | inl en =>
      rw [hpc] at con
      have hne : en ≠ 0 := by rcases parseC_no x en hpc with h | h <;> omega
      have d2 : ((en : Int) != 0) = true := by unfold bne; rw [beq_eq_false_iff_ne.2 hne]; rfl
      have d3 : ((en : Int) == 0) = false := beq_eq_false_iff_ne.2 hne
      have HE := Lib.hid (show clausesL (xs.map Prod.snd) = .inl en by
        rw [hxm.out, List.map_append, List.map_cons]
        exact clauses_err x en hpc _ _ _ hcl)
      clear hne hpc hcl hzs hrow hbx hit
      gi_wp2_with fail
      refine ⟨trivial, rfl, (CallsIn.inRound ll (callsIn_wide.2 con)).mono ?_⟩
      rintro e w6 ⟨q6, n6, c6, rfl, hs6, hq6, hb6⟩
      have kb := Keep.of_below hb6
      have bR6 := (kb.boxed bR5 bR5.lt).alloc (.cells #[.slice q6 n6 c6] 77)
      have bE6 := (kb.boxed bE5 bE5.lt).alloc (.cells #[.slice q6 n6 c6] 77)
      have kf := bR6.frozen
      have kc := bR6.cell
      have b3 := bR6.set (.slice none 0 0)
      have e3 := (Keep.setCell (S := fun b => b = w.heap.size + 1) (w6.alloc (.cells #[.slice q6 n6 c6] 77)) ⟨w.heap.size, 0, none⟩ (.slice none 0 0) (by simp)).boxed bE6 rfl
      have ef3 := e3.frozen
      have ec3 := e3.cell
      have b4 := (Keep.setCell (S := fun b => b = w.heap.size) ((w6.alloc (.cells #[.slice q6 n6 c6] 77)).setCell ⟨w.heap.size, 0, none⟩ (.slice none 0 0)) ⟨w.heap.size + 1, 0, none⟩ (.int .i64 en) (by simp)).boxed b3 rfl
      have e4 := e3.set (.int .i64 en)
      clear con hs6
      unfold errC
      gi_wp2
      have kq : ∀ (S : Nat → Prop), (∀ b, S b → b < W5.heap.size) → ¬ S w.heap.size → ¬ S (w.heap.size + 1) → Keep S W5 (((w6.alloc (.cells #[.slice q6 n6 c6] 77)).setCell ⟨w.heap.size, 0, none⟩ (.slice none 0 0)).setCell ⟨w.heap.size + 1, 0, none⟩ (.int .i64 en)) := fun S h0 h1 h2 =>
        (((kb.mono fun b _ hb => h0 b hb).trans (Keep.alloc S _ _)).trans (Keep.setCell _ _ _ h1)).trans (Keep.setCell _ _ _ h2)
      have hA6 := (((A5.trans (hb6.mono A5.size)).alloc (by have := (A5.trans (hb6.mono A5.size)).size; exact this) (.cells #[.slice q6 n6 c6] 77)).setCell (p := ⟨w.heap.size, 0, none⟩) (by simp) (.slice none 0 0)).setCell (p := ⟨w.heap.size + 1, 0, none⟩) (by simp) (.int .i64 en)
      have hz6 : W4.heap.size ≤ (((w6.alloc (.cells #[.slice q6 n6 c6] 77)).setCell ⟨w.heap.size, 0, none⟩ (.slice none 0 0)).setCell ⟨w.heap.size + 1, 0, none⟩ (.int .i64 en)).heap.size := Nat.le_trans hszW (kq (fun _ => False) (fun _ h => h.elim) id id).size
      refine ⟨kq _ (fun b hb => ?_) (fun h => ?_) (fun h => ?_), ⟨rfl, en, b4, e4, HE.out, hA6, fun b hb => hge b hb.1⟩, hz6⟩
      · rcases hb with h | h
        · have := (hRl b h).2; omega
        · exact hPl5 b h.1
      · rcases h with h | h
        · have := (hRl _ h).1; omega
        · have := hge _ h.1; omega
      · rcases h with h | h
        · have := (hRl _ h).1; omega
        · have := hge _ h.1; omega
    | inr cv =>
      rw [hpc] at con
      have hcf := (parseC_ok x cv hpc).few
      have HLL := Lib.hid hll2
      have hll3 : ls.length ≤ n := by omega
      have HE := Lib.hid (show clausesL ((pre ++ [(xi, x)]).map Prod.snd) = .inr (ls.map Prod.snd ++ [cv]) by
        rw [List.map_append]
        exact clauses_snoc x cv hpc _ _ hcl)
      clear hpc hcl hit hll2
      gi_wp2_with fail
      refine ⟨trivial, rfl, (CallsIn.inRound ll (callsIn_wide.2 con)).mono ?_⟩
      rintro e w6 ⟨q6, n6, c6, rfl, hs6, hq6, hb6⟩
      have kb := Keep.of_below hb6
      have hsz6 := hb6.size
      have hbx7 := (kb.boxed hbx hbx.lt).alloc (.cells #[.slice q6 n6 c6] 77)
      have hrow7 := (kb.row hrow (fun b hb => (hrow.lt b hb).2)).alloc (.cells #[.slice q6 n6 c6] 77)
      have cB := hbx7.cell
      have cC := (Boxed.new w6 77 (.slice q6 n6 c6)).cell
      have hz1' : (w6.alloc (.cells #[.slice q6 n6 c6] 77)).heap.size = w6.heap.size + 1 := by simp
      clear con
      unfold errC
      gi_wp2_with (gi_at_builtin; go_must (refine wpListIn_append_own_at _ rfl _ _ 29 rfl W4.heap.size 77 i0 (.agg #[.slice none 0 0]) 1 24 Tryz.underlying29 hi0 hz0 hz1 hz2 rfl (by decide) _ _ _ rfl (hrow7.alloc _) ⟨w6.heap.size + 1, 0, none⟩ 1 1 [.slice q6 n6 c6] rfl rfl (by rw [← hz1']; exact cell_one_new _ _ _) (by simp [Value.oneCell']) (by unfold maxLen; omega) (by omega) (by simp; omega) ?_); intro v' w1 hown' hgrow _ hat; obtain ⟨g', cap', rfl⟩ := ownsRow_succ hown'; obtain ⟨hv1, hv2, hr2, hkk⟩ := appended_keep (S := fun b => b ≠ W2.heap.size ∧ v.ownBlock ≠ some b) hbx7 (by decide) hrow7 (fun h => h.1 rfl) (fun b hb h => h.2 hb) hown' hgrow; have hc1 := hv1.cell; have hf1 := hv1.frozen)
      have hat' : some g' = v.ownBlock ∨ some g' = some ((w6.alloc (.cells #[.slice q6 n6 c6] 77)).alloc (.cells #[.slice q6 n6 c6] 77)).heap.size := hat
      have hg : ∀ b, some g' = some b → v.ownBlock = some b ∨ w6.heap.size + 2 ≤ b := fun b hb => by
        rcases hat' with h | h
        · exact .inl (h ▸ hb)
        · rw [hb] at h
          have := Option.some.inj h
          simp at this
          exact .inr (by omega)
      have hk6 : ∀ S : Nat → Prop, (∀ b, S b → b < w6.heap.size ∧ b ≠ W2.heap.size ∧ v.ownBlock ≠ some b) → Keep S w6 (w1.setCell ⟨W2.heap.size, 0, none⟩ (.slice (some ⟨g', 0, none⟩) (ls.length + 1) cap')) := fun S hS => (Keep.alloc S _ _).trans (hkk.mono fun b _ h => (hS b h).2)
      have hk5 : ∀ S : Nat → Prop, (∀ b, S b → b < W5.heap.size ∧ b ≠ W2.heap.size ∧ v.ownBlock ≠ some b) → Keep S W5 (w1.setCell ⟨W2.heap.size, 0, none⟩ (.slice (some ⟨g', 0, none⟩) (ls.length + 1) cap')) := fun S hS => (kb.mono fun b _ h => (hS b h).1).trans (hk6 S fun b h => ⟨by have := (hS b h).1; omega, (hS b h).2⟩)
      have hown5 : ∀ b, v.ownBlock = some b → W4.heap.size ≤ b ∧ b < W5.heap.size := fun b hb => hrow.lt b hb
      have hz6 : ClAt w6 ((q6, n6, c6), cv) := ⟨hs6, hcf⟩
      refine ⟨hk5 _ (fun b hb => ?_), _, ls ++ [((q6, n6, c6), cv)], hv2, by simpa [encC] using hr2, fun z hz => ?_, by rw [HE.out, List.map_append]; rfl, fun b hb => hge b hb.1, fun b hb hp => ?_, hK5.trans (hk5 _ (fun b hb => ?_)), by rw [List.length_append, List.length_append, HLL.out]; rfl⟩
      · rcases hb with h | h
        · have h2 := hRl b h
          exact ⟨by omega, by omega, fun e => by have := (hown5 b e).1; omega⟩
        · exact ⟨hPl5 b h.1, fun e => hnP b (by omega) h.1, fun e => hnv b e h.1⟩
      · rcases List.mem_append.1 hz with h | h
        · obtain ⟨k1, k2⟩ := hzs z h
          refine ⟨k1.from (hk5 (fun b => b < W5.heap.size ∧ b ≠ W2.heap.size ∧ v.ownBlock ≠ some b) (fun b hb => hb)) (fun a ha h0 => ?_), fun a ha h0 => ?_⟩
          · obtain ⟨j1, j2, j3⟩ := k2 a ha h0
            exact ⟨k1.lt a ha h0, by omega, j3⟩
          · obtain ⟨j1, j2, j3⟩ := k2 a ha h0
            refine ⟨fun hp => j1 hp.1, j2, fun e => ?_⟩
            rcases hg a.block e with h | h
            · exact j3 h
            · have := k1.lt a ha h0; omega
        · rw [List.mem_singleton.1 h]
          refine ⟨hz6.from (hk6 (fun b => b < w6.heap.size ∧ b ≠ W2.heap.size ∧ v.ownBlock ≠ some b) (fun b hb => hb)) (fun a ha h0 => ?_), fun a ha h0 => ?_⟩
          · have j := hq6 a ha
            exact ⟨hz6.lt a ha h0, by omega, fun e => by have := (hown5 _ e).2; omega⟩
          · have j := hq6 a ha
            refine ⟨fun hp => by have := hPl5 _ hp.1; omega, by omega, fun e => ?_⟩
            rcases hg a.block e with h | h
            · have := (hown5 _ h).2; omega
            · have := hz6.lt a ha h0; omega
      · rcases hg b hb with h | h
        · exact hnv b h hp.1
        · have := hPl5 b hp.1; omega
      · exact ⟨by omega, by omega, fun e => by have := (hown5 b e).1; omega⟩
  case done =>
    rintro D Pv Wd hD hPD hPl ⟨v, ls, hbx, hrow, hzs, hcl, hge, hnv, hKW, hll2⟩ hK
    obtain ⟨q5, c5, rfl, hc5, _, hs5, _⟩ := slIn_of_owns hrow
    have hA : Keep (fun b => b < W2.heap.size) W4 Wd := hKW
    have bRd := hA.boxed bR (by omega)
    have bEd := hA.boxed bE (by omega)
    have hBd : Below w.heap.size w Wd := A4.trans ((hA.mono fun b _ h => by omega).below A4.size)
    have HR := Lib.hid (HP2.out HN.out _ hcl)
    have con := Of_any q5 ls.length c5 (ls.map Prod.snd) Wd ⟨ls, hs5, fun z hz => (hzs z hz).1, rfl⟩ (fun h => by subst h; exact (Cls.row_nil hrow).2) (by have := hlx.out; omega)
    rw [← HR.out] at con
    have cB := hbx.cell
    have hDl := hPl D hPD
    clear hs5 hrow hbx hnv hge hKW hA hit hzs hcl b0 hll2
    gi_wp2_with fail
    refine ⟨trivial, (callsIn_wide.2 con).mono ?_⟩
    rintro e w6 ⟨q6, n6, c6, rfl, hs6, hq6, hb6⟩
    have hD6 : w6.heap[D]? = some (.deferred (some [])) := (hb6.block D hDl).trans hK
    have hsd := hBd.size
    have hDg : w.heap.size + 2 ≤ D := by omega
    have hqn : ∀ a, q6 = some a → w.heap.size ≤ a.block := fun a ha => Nat.le_trans hsd (hq6 a ha)
    replace hq6 : ∀ a, q6 = some a → a.block ≠ w.heap.size ∧ a.block ≠ w.heap.size + 1 := fun a ha => by have := hq6 a ha; have := bEd.lt; omega
    have bR6 := (Keep.of_below hb6).boxed bRd bRd.lt
    have bE6 := (Keep.of_below hb6).boxed bEd bEd.lt
    have A6 := hBd.trans (hb6.mono hBd.size)
    have kf := bR6.frozen
    have kc := bR6.cell
    have b3 := bR6.set (.slice q6 n6 c6)
    have f3 := hs6.set (u' := .slice q6 n6 c6) bR6 (fun x h => by cases h) (fun a ha => (hq6 a ha).1)
    have e3 := (Keep.setCell (S := fun b => b = w.heap.size + 1) w6 ⟨w.heap.size, 0, none⟩ (.slice q6 n6 c6) (by simp)).boxed bE6 rfl
    have ef3 := e3.frozen
    have ec3 := e3.cell
    have hD7 := (Keep.setCell (S := fun b => b = D) w6 ⟨w.heap.size, 0, none⟩ (.slice q6 n6 c6) (by simp; omega)).heap rfl hD6
    have A7 := A6.setCell (p := ⟨w.heap.size, 0, none⟩) (by simp) (.slice q6 n6 c6)
    clear con hb6
    obtain ⟨r, hr⟩ : ∃ r, parseF t = r := ⟨_, rfl⟩
    rw [hr] at hs6 f3 ⊢
    gi_wp2
    subst hr
    have b4 := (Keep.setCell (S := fun b => b = w.heap.size) (w6.setCell ⟨w.heap.size, 0, none⟩ (.slice q6 n6 c6)) ⟨w.heap.size + 1, 0, none⟩ (.int .i64 (frmE (parseF t))) (by simp)).boxed b3 rfl
    have e4 := e3.set (.int .i64 (frmE (parseF t)))
    have f4 := f3.set (u' := .int .i64 (frmE (parseF t))) e3 (fun x h => by cases h) (fun a ha => (hq6 a ha).2)
    have hD8 := (Keep.setCell (S := fun b => b = D) (w6.setCell ⟨w.heap.size, 0, none⟩ (.slice q6 n6 c6)) ⟨w.heap.size + 1, 0, none⟩ (.int .i64 (frmE (parseF t))) (by simp; omega)).heap rfl hD7
    have A8 := A7.setCell (p := ⟨w.heap.size + 1, 0, none⟩) (by simp) (.int .i64 (frmE (parseF t)))
    refine ⟨by simp, .inl ⟨_, _, rfl, run_takeDeferred hD8, ?_⟩⟩
    have hkP : ∀ S : Nat → Prop, ¬ S D → Keep S ((w6.setCell ⟨w.heap.size, 0, none⟩ (.slice q6 n6 c6)).setCell ⟨w.heap.size + 1, 0, none⟩ (.int .i64 (frmE (parseF t)))) (((w6.setCell ⟨w.heap.size, 0, none⟩ (.slice q6 n6 c6)).setCell ⟨w.heap.size + 1, 0, none⟩ (.int .i64 (frmE (parseF t)))).putObj D (.deferred none)) := fun S hS => Keep.putObj _ D (.deferred none) hS
    refine ⟨_, ret_frm22 rfl _ _ w.heap.size (w.heap.size + 1) _ _ rfl rfl ((hkP (fun b => b = w.heap.size) (by omega)).boxed b4 rfl) ((hkP (fun b => b = w.heap.size + 1) (by omega)).boxed e4 rfl).cell, q6, n6, c6, rfl, f4.put hD8, hqn, ?_⟩
    · exact ((Keep.of_below A8).trans (hkP _ (by omega))).below (Nat.le_refl _)
  case stop =>
    rintro D cc pre rest Pv Wd hD hPD hPl hxs ⟨⟨rfl, en, hR, hE, hcl, hBd, hge⟩, hsz⟩ hK
    clear hxs
    have HR := Lib.hid (HP3.out HN.out _ hcl)
    have hDg : w.heap.size + 2 ≤ D := by have := A4.size; omega
    gi_wp2
    refine ⟨by simp, .inl ⟨_, _, rfl, run_takeDeferred hK, ?_⟩⟩
    have hkP : ∀ S : Nat → Prop, ¬ S D → Keep S Wd (Wd.putObj D (.deferred none)) := fun S hS => Keep.putObj _ D (.deferred none) hS
    refine ⟨_, ret_frm22 rfl _ _ w.heap.size (w.heap.size + 1) _ _ rfl rfl ((hkP (fun b => b = w.heap.size) (by omega)).boxed hR rfl) ((hkP (fun b => b = w.heap.size + 1) (by omega)).boxed hE rfl).cell, ?_⟩
    rw [HR.out]
    exact ⟨none, 0, 0, rfl, frm_nil _, (fun a h => by cases h), ((Keep.of_below hBd).trans (hkP _ (by omega))).below (Nat.le_refl _)⟩
end Go.Proofs.YtedglpfdibamdaaGreatDoor.Frm
namespace Go.Proofs.YtedglpfdibamdaaGreatDoor.Frm
open Go.RowKit Go.Shelf Go.Sort Url Org Cls
attribute [local go_sem] Oper.semAt_some
set_option linter.unusedVariables false
end Go.Proofs.YtedglpfdibamdaaGreatDoor.Frm
namespace Go.Proofs.YtedglpfdibamdaaGreatDoor.Pol
open Go.RowKit Go.Shelf Url Org Frm Cls
attribute [local go_sem] Oper.semAt_some
set_option linter.unusedVariables false
theorem info_strP : (Tryz.prog.info? 9).map (fun i => (i.zero, i.size, i.bytes)) = some (some (.string ByteArray.empty), 1, 16) := by kernel_rfl
theorem join_pol : ∀ (p : List UInt8) (r : List (List UInt8)), Lib.join (p :: r) [32] = joinS (p :: r)
  | p, [] => by rw [Lib.join_cons]; show p ++ [] = p; simp
  | p, q :: r => by
    have ih := join_pol q r
    rw [Lib.join_cons] at ih ⊢
    show p ++ _ = p ++ 32 :: joinS (q :: r)
    rw [← ih]
    rfl
theorem srcP_k (x : List UInt8) : (srcP x).1 = 0 ∨ (srcP x).1 = 1 ∨ (srcP x).1 = 2 ∨ (srcP x).1 = 3 := by
  unfold srcP
  split
  · exact .inl rfl
  · split
    · exact .inr (.inl rfl)
    · split
      · exact .inr (.inr (.inr rfl))
      · exact .inr (.inr (.inl rfl))
theorem srcP_d (x : List UInt8) : (srcP x).2.2.length ≤ x.length := by
  unfold srcP
  split
  · exact Nat.zero_le _
  · split
    · exact Nat.zero_le _
    · split
      · show (Ref.lowL _).length ≤ _
        unfold Ref.lowL
        rw [List.length_map, List.length_drop]; omega
      · exact Nat.zero_le _
theorem okQ_host (o : QO) (h : OkQ o) : (partsQ o).1.2.length ≤ 1218 := by
  cases o with
  | none => exact Nat.zero_le _
  | some x => cases x with
    | inl n => exact Nat.zero_le _
    | inr u =>
      have h2 : (placeU u).length ≤ 1218 := h.2
      unfold placeU at h2
      simp only [List.length_append] at h2
      show u.host.length ≤ _
      omega
theorem cells_six (p : SP) : ∃ (k : Int) (s g : ByteArray) (u m : Int) (d : ByteArray), cellsP p = [.int .i64 k, .string s, .string g, .int .i64 u, .int .i64 m, .string d] := ⟨_, _, _, _, _, _, rfl⟩
theorem SrcIn.at {w : World} {q : Option Addr} {n : Nat} {l : List (List UInt8)} (h : SrcIn w q n l) (k : Nat) (hk : k < n) :
    ∃ g o x, q = some ⟨g, o, none⟩ ∧ l[k]? = some x ∧ g < w.heap.size ∧ ∀ j v, (cellsP (srcP x))[j]? = some v → w.cell? ⟨g, o + k * 6 + j, none⟩ = some v := by
  obtain ⟨g, o, rfl, hg, hc⟩ := h.2 (by omega)
  have hkl : k < l.length := by rw [h.1]; exact hk
  have hx : l[k]? = some l[k] := List.getElem?_eq_getElem hkl
  exact ⟨g, o, _, rfl, hx, hg, hc k _ hx⟩
set_option maxRecDepth 100000 in
set_option maxHeartbeats 4000000 in
theorem allows1_any (p : SP) (own o : QO) (B1 B2 : Nat) (w : World) (hk : p.1 = 0 ∨ p.1 = 1 ∨ p.1 = 2 ∨ p.1 = 3) (hh : (partsQ o).1.2.length ≤ 1048576) (hd : p.2.2.length ≤ 1048576) (hB1 : QX B1 own w) (hB2 : QX B2 o w) :
    Calls Tryz.prog 37 #[.agg (cellsP p).toArray, .pointer (some ⟨B1, 0, none⟩), .pointer (some ⟨B2, 0, none⟩)] w fun e w' => e = .returned (.bool (allowP p own o)) ∧ Below w.heap.size w w' := by
  obtain ⟨ku, su, gu, pu, mu, du, hv⟩ := cells_six p
  have A1 := below_alloc (w := w) (.cells #[.int .i64 ku, .string su, .string gu, .int .i64 pu, .int .i64 mu, .string du] 82)
  have b0 := SB.new w #[.int .i64 ku, .string su, .string gu, .int .i64 pu, .int .i64 mu, .string du]
  have con := sAllows_any p own o (w.alloc (.cells #[.int .i64 ku, .string su, .string gu, .int .i64 pu, .int .i64 mu, .string du] 82)) hk hh hd
  rw [hv] at con ⊢
  show Calls _ _ #[.agg #[.int .i64 ku, .string su, .string gu, .int .i64 pu, .int .i64 mu, .string du], _, _] _ _
  obtain ⟨⟨⟨s1, g1⟩, ⟨p1, m1⟩⟩, h1⟩ : ∃ y, partsQ own = y := ⟨_, rfl⟩
  obtain ⟨⟨⟨s2, g2⟩, ⟨p2, m2⟩⟩, h2⟩ : ∃ y, partsQ o = y := ⟨_, rfl⟩
  have e1 : orgQ own = .agg #[.string ⟨s1.toArray⟩, .string ⟨g1.toArray⟩, .int .i64 p1, .int .i64 m1] := by unfold orgQ orgV; rw [h1]
  have e2 : orgQ o = .agg #[.string ⟨s2.toArray⟩, .string ⟨g2.toArray⟩, .int .i64 p2, .int .i64 m2] := by unfold orgQ orgV; rw [h2]
  rw [e1, e2] at con
  have y1 := hB1.on A1
  have y2 := hB2.on A1
  have x0 := b0.box 0 _ rfl
  have x1 := b0.box 1 _ rfl
  have x2 := b0.box 2 _ rfl
  have x3 := b0.box 3 _ rfl
  have x4 := b0.box 4 _ rfl
  have x5 := b0.box 5 _ rfl
  have r0 := y1.c0
  have r1 := y1.c1
  have r2 := y1.c2
  have r3 := y1.c3
  have t0 := y2.c0
  have t1 := y2.c1
  have t2 := y2.c2
  have t3 := y2.c3
  rw [h1] at r0 r1 r2 r3
  rw [h2] at t0 t1 t2 t3
  simp only at r0 r1 r2 r3 t0 t1 t2 t3
  generalize allowP p own o = R at *
  clear b0 hv h1 h2 e1 e2 y1 y2 hB1 hB2 hk hh hd
  go_enter Tryz.func37, Tryz.ntmps37
  go_wp2_with fail
  refine con.mono ?_
  rintro e w' ⟨rfl, hb⟩
  go_wp2
  go_ret
  exact ⟨rfl, A1.trans (hb.mono A1.size)⟩
theorem allows_take (l : List (List UInt8)) (own o : QO) (x : List UInt8) (k : Nat) (h : l[k]? = some x) (h0 : allowB x own o = true) : allowsB l own o = true :=
  List.any_eq_true.2 ⟨x, List.mem_of_getElem? h, h0⟩
set_option maxRecDepth 100000 in
set_option maxHeartbeats 4000000 in
theorem srcIndex_any (q : Option Addr) (n c : Nat) (l : List (List UInt8)) (own o : QO) (B1 B2 : Nat) (w : World) (h : SrcIn w q n l) (hl : n ≤ 32) (hs : ∀ c ∈ l, SrcOk c) (ho : OkQ o) (hB1 : QX B1 own w) (hB2 : QX B2 o w) :
    Calls Tryz.prog 62 #[.slice q n c, .func (.func 37) #[] #[.pointer (some ⟨B1, 0, none⟩), .pointer (some ⟨B2, 0, none⟩)]] w fun e w' => ∃ i : Int, e = .returned (.int .i64 i) ∧ decide (0 ≤ i) = allowsB l own o ∧ Below w.heap.size w w' := by
  have hln := Lib.hid h.1
  have HS := Lib.hid hs
  have HO := Lib.hid (okQ_host o ho)
  clear hs ho
  go_enter Tryz.func62, Tryz.ntmps62
  go_wp2
  go_loopw [8] (fun i wr => ∃ k : Nat, k ≤ n ∧ i = .int .i64 k ∧ Hid (∀ j x, j < k → l[j]? = some x → allowB x own o = false) ∧ Below w.heap.size w wr) (fun i _ => n - (intOf i).toNat)
  case atStart => exact ⟨0, Nat.zero_le _, rfl, Lib.hid (fun j x h => by omega), Below.refl _ _⟩
  case round =>
    obtain ⟨k, hk, rfl, HJ, hB⟩ := hrel
    by_cases hlt : k < n
    · obtain ⟨g, o', x, rfl, hx, hg, hc⟩ := (h.below hB).at k hlt
      have hxl := (HS.out x (List.mem_of_getElem? hx)).len
      have con := allows1_any (srcP x) own o B1 B2 wr (srcP_k x) (by have := HO.out; omega) (by have := srcP_d x; omega) (hB1.on hB) (hB2.on hB)
      obtain ⟨ku, su, gu, pu, mu, du, hv⟩ := cells_six (srcP x)
      rw [hv] at con hc
      have x0 : wr.cell? ⟨g, o' + k * 6, none⟩ = some (.int .i64 ku) := hc 0 _ rfl
      have x1 : wr.cell? ⟨g, o' + k * 6 + 1, none⟩ = some (.string su) := hc 1 _ rfl
      have x2 : wr.cell? ⟨g, o' + k * 6 + 2, none⟩ = some (.string gu) := hc 2 _ rfl
      have x3 : wr.cell? ⟨g, o' + k * 6 + 3, none⟩ = some (.int .i64 pu) := hc 3 _ rfl
      have x4 : wr.cell? ⟨g, o' + k * 6 + 4, none⟩ = some (.int .i64 mu) := hc 4 _ rfl
      have x5 : wr.cell? ⟨g, o' + k * 6 + 5, none⟩ = some (.string du) := hc 5 _ rfl
      have hap : allowP (srcP x) own o = allowB x own o := rfl
      rw [hap] at con
      clear hap hv hc hxl
      cases hp : allowB x own o with
      | true =>
        rewrite [hp] at con
        have HR := Lib.hid (show decide ((0 : Int) ≤ (k : Int)) = allowsB l own o by rw [allows_take l own o x k hx hp]; simp)
        clear hx h HJ hB1 hB2 hp
        go_wp2_with fail
        refine con.mono ?_
        rintro e w3 ⟨rfl, hb3⟩
        have A3 := hB.trans (hb3.mono hB.size)
        clear con hb3
        go_wp2
        go_ret
        exact ⟨_, rfl, HR.out, A3⟩
      | false =>
        rewrite [hp] at con
        have HJ2 := Lib.hid (show ∀ j z, j < k + 1 → l[j]? = some z → allowB z own o = false from fun j z hj hz => by
          by_cases e : j = k
          · subst e; rw [hx] at hz; cases hz; exact hp
          · exact HJ.out j z (by omega) hz)
        clear hx h HJ hp hB1 hB2
        go_wp2_with fail
        refine con.mono ?_
        rintro e w3 ⟨rfl, hb3⟩
        have A3 := hB.trans (hb3.mono hB.size)
        clear con hb3
        go_wp2
        go_roundw
        case rel => exact ⟨k + 1, by omega, by go_num, HJ2, A3⟩
        case measure => simp [intOf]; omega
    · obtain rfl : k = n := by omega
      have HR := Lib.hid (show decide ((0 : Int) ≤ -1) = allowsB l own o by
        have : allowsB l own o = false := by
          unfold allowsB
          rw [Bool.eq_false_iff]
          intro ha
          obtain ⟨x, hx, hs⟩ := List.any_eq_true.1 ha
          obtain ⟨j, hj, rfl⟩ := List.getElem_of_mem hx
          have := HJ.out j _ (by have := hln.out; omega) (List.getElem?_eq_getElem hj)
          rw [this] at hs; cases hs
        rw [this]; rfl)
      clear HJ h hB1 hB2
      go_wp2
      go_ret
      exact ⟨_, rfl, HR.out, hB⟩
set_option maxRecDepth 100000 in
set_option maxHeartbeats 4000000 in
theorem srcContains_any (q : Option Addr) (n c : Nat) (l : List (List UInt8)) (own o : QO) (B1 B2 : Nat) (w : World) (h : SrcIn w q n l) (hl : n ≤ 32) (hs : ∀ c ∈ l, SrcOk c) (ho : OkQ o) (hB1 : QX B1 own w) (hB2 : QX B2 o w) :
    Calls Tryz.prog 36 #[.slice q n c, .func (.func 37) #[] #[.pointer (some ⟨B1, 0, none⟩), .pointer (some ⟨B2, 0, none⟩)]] w fun e w' => e = .returned (.bool (allowsB l own o)) ∧ Below w.heap.size w w' := by
  have con := srcIndex_any q n c l own o B1 B2 w h hl hs ho hB1 hB2
  clear h hB1 hB2 hs ho
  go_enter Tryz.func36, Tryz.ntmps36
  go_wp2_with fail
  refine con.mono ?_
  rintro e w' ⟨i, rfl, hi, hb⟩
  have HI := Lib.hid hi
  clear con hi
  go_wp2
  go_ret
  exact ⟨by rw [← HI.out]; simp, hb⟩
set_option maxRecDepth 100000 in
set_option maxHeartbeats 4000000 in
theorem Allows_any (q : Option Addr) (n c : Nat) (l : List (List UInt8)) (own o : QO) (w : World) (h : SrcsIs w (.agg #[.slice q n c]) l) (hl : l.length ≤ 32) (hs : ∀ c ∈ l, SrcOk c) (h1 : OkQ own) (h2 : OkQ o) (hG : Gl w) :
    Calls Tryz.prog 18 #[.agg #[.slice q n c], orgQ own, orgQ o] w fun e w' => e = .returned (.bool (allowsB l own o)) ∧ Below w.heap.size w w' := by
  obtain ⟨q', n', c', he, _, _, hr⟩ := h
  cases he
  obtain ⟨⟨⟨s1, g1⟩, ⟨p1, m1⟩⟩, e1⟩ : ∃ y, partsQ own = y := ⟨_, rfl⟩
  obtain ⟨⟨⟨s2, g2⟩, ⟨p2, m2⟩⟩, e2⟩ : ∃ y, partsQ o = y := ⟨_, rfl⟩
  have E1 : orgQ own = .agg #[.string ⟨s1.toArray⟩, .string ⟨g1.toArray⟩, .int .i64 p1, .int .i64 m1] := by unfold orgQ orgV; rw [e1]
  have E2 : orgQ o = .agg #[.string ⟨s2.toArray⟩, .string ⟨g2.toArray⟩, .int .i64 p2, .int .i64 m2] := by unfold orgQ orgV; rw [e2]
  have C1 : cellsQ own = #[.string ⟨s1.toArray⟩, .string ⟨g1.toArray⟩, .int .i64 p1, .int .i64 m1] := by unfold cellsQ orgC; rw [e1]
  have C2 : cellsQ o = #[.string ⟨s2.toArray⟩, .string ⟨g2.toArray⟩, .int .i64 p2, .int .i64 m2] := by unfold cellsQ orgC; rw [e2]
  rw [E1, E2]
  obtain ⟨W, hW⟩ : ∃ W, ((w.alloc (.cells #[.slice q n c] 36)).alloc (.cells #[.string ⟨s1.toArray⟩, .string ⟨g1.toArray⟩, .int .i64 p1, .int .i64 m1] 25)).alloc (.cells #[.string ⟨s2.toArray⟩, .string ⟨g2.toArray⟩, .int .i64 p2, .int .i64 m2] 25) = W := ⟨_, rfl⟩
  have A1 : Below w.heap.size w W := hW ▸ (((Below.refl _ w).alloc (Nat.le_refl _) _).alloc (by simp) _).alloc (by simp; omega) _
  have x0 : W.cell? ⟨w.heap.size, 0, none⟩ = some (.slice q n c) := hW ▸ (((Boxed.new w _ _).alloc _).alloc _).cell
  have b1 : QX (w.heap.size + 1) own W := by
    have := (OB.new (w.alloc (.cells #[.slice q n c] 36)) #[.string ⟨s1.toArray⟩, .string ⟨g1.toArray⟩, .int .i64 p1, .int .i64 m1]).on (below_alloc (.cells #[.string ⟨s2.toArray⟩, .string ⟨g2.toArray⟩, .int .i64 p2, .int .i64 m2] 25))
    rw [World.size_alloc] at this
    unfold QX
    rw [C1]
    exact hW ▸ this
  have b2 : QX (w.heap.size + 2) o W := by
    have := OB.new ((w.alloc (.cells #[.slice q n c] 36)).alloc (.cells #[.string ⟨s1.toArray⟩, .string ⟨g1.toArray⟩, .int .i64 p1, .int .i64 m1] 25)) #[.string ⟨s2.toArray⟩, .string ⟨g2.toArray⟩, .int .i64 p2, .int .i64 m2]
    rw [World.size_alloc, World.size_alloc] at this
    unfold QX
    rw [C2]
    exact hW ▸ this
  have con := srcContains_any q n c l own o (w.heap.size + 1) (w.heap.size + 2) W (hr.below A1) (by have := hr.1; omega) hs h2 b1 b2
  have HW := Lib.hid hW
  clear hW b1 b2 hr E1 E2 C1 C2 e1 e2 hs h1 h2 hG hl
  go_enter Tryz.func18, Tryz.ntmps18
  go_wp2_with fail
  rw [HW.out]
  go_wp2_with fail
  refine con.mono ?_
  rintro e w' ⟨rfl, hb⟩
  go_wp2
  go_ret
  exact ⟨rfl, A1.trans (hb.mono A1.size)⟩
set_option maxRecDepth 100000 in
set_option maxHeartbeats 8000000 in
theorem Text_any (q : Option Addr) (n c : Nat) (l : List (List UInt8)) (w : World) (h : SrcsIs w (.agg #[.slice q n c]) l) (hl : l.length ≤ 32) (hs : ∀ c ∈ l, SrcOk c) (hG : Gl w) :
    Calls Tryz.prog 16 #[.agg #[.slice q n c]] w fun e w' => e = .returned (.string ⟨(textS l).toArray⟩) ∧ Below w.heap.size w w' := by
  obtain ⟨i0, hi0, hz0, hz1, hz2⟩ := info_parts Pol.info_strP
  obtain ⟨q', n', c', he, _, _, hr⟩ := h
  cases he
  have hln := hr.1
  obtain ⟨W, hW⟩ : ∃ W, w.alloc (.cells #[.slice q n c] 36) = W := ⟨_, rfl⟩
  have A1 : Below w.heap.size w W := hW ▸ below_alloc _
  have b0 : Boxed W w.heap.size 36 (.slice q n c) := hW ▸ Boxed.new w _ _
  have x0 := b0.cell
  have hr1 := hr.below A1
  have HW := Lib.hid hW
  have HG := Lib.hid (hG.on A1)
  have HS := Lib.hid hs
  have HTL := Lib.hid (txt_len l hs hl)
  by_cases h0 : n = 0
  · subst h0
    obtain rfl : l = [] := List.eq_nil_of_length_eq_zero hln
    clear hW hr hr1 hs hG b0 hln
    go_enter Tryz.func16, Tryz.ntmps16
    go_wp2_with fail
    rw [HW.out]
    go_wp2
    go_ret
    exact ⟨rfl, A1⟩
  · have e0 : ((n : Int) == 0) = false := by rw [beq_eq_false_iff_ne]; omega
    have HN := Lib.hid (show n ≤ 32 by omega)
    have HLN := Lib.hid hln
    have HP := Lib.hid (show 0 < n by omega)
    clear hW hr hs hG b0 hln hl h0
    go_enter Tryz.func16, Tryz.ntmps16
    go_wp2_with fail
    rw [HW.out]
    go_wp2_with fail
    clear x0
    go_loopw [3, 13] (fun b i wr => ∃ k : Nat, k ≤ n ∧ i = .int .i64 k ∧ Below W.heap.size W wr ∧ wr.ownsRow W.heap.size 9 1 b k ((l.take k).map encStr)) (fun _ i _ => n - (intOf i).toNat)
    case atStart => exact ⟨0, Nat.zero_le _, rfl, Below.refl _ _, World.ownsRow_nil _ _ _ _⟩
    case round =>
      obtain ⟨k, hk, rfl, hB, hown⟩ := hrel
      by_cases hlt : k < n
      · obtain ⟨g, o', x, rfl, hx, hg, hc⟩ := (hr1.below hB).at k hlt
        have hxo := HS.out x (List.mem_of_getElem? hx)
        obtain ⟨ku, su, gu, pu, mu, du, hv⟩ := cells_six (srcP x)
        obtain ⟨W2, hW2⟩ : ∃ Z, wr.alloc (.cells #[.int .i64 ku, .string su, .string gu, .int .i64 pu, .int .i64 mu, .string du] 82) = Z := ⟨_, rfl⟩
        have hb2 : Below wr.heap.size wr W2 := hW2 ▸ below_alloc _
        have B2 := hB.trans (hb2.mono hB.size)
        have s2 : SB wr.heap.size #[.int .i64 ku, .string su, .string gu, .int .i64 pu, .int .i64 mu, .string du] W2 := hW2 ▸ SB.new wr _
        have con := sText_any x hxo W2 (HG.out.on B2)
        rw [hv] at con hc
        have x0 : wr.cell? ⟨g, o' + k * 6, none⟩ = some (.int .i64 ku) := hc 0 _ rfl
        have x1 : wr.cell? ⟨g, o' + k * 6 + 1, none⟩ = some (.string su) := hc 1 _ rfl
        have x2 : wr.cell? ⟨g, o' + k * 6 + 2, none⟩ = some (.string gu) := hc 2 _ rfl
        have x3 : wr.cell? ⟨g, o' + k * 6 + 3, none⟩ = some (.int .i64 pu) := hc 3 _ rfl
        have x4 : wr.cell? ⟨g, o' + k * 6 + 4, none⟩ = some (.int .i64 mu) := hc 4 _ rfl
        have x5 : wr.cell? ⟨g, o' + k * 6 + 5, none⟩ = some (.string du) := hc 5 _ rfl
        have y0 := s2.box 0 _ rfl
        have y1 := s2.box 1 _ rfl
        have y2 := s2.box 2 _ rfl
        have y3 := s2.box 3 _ rfl
        have y4 := s2.box 4 _ rfl
        have y5 := s2.box 5 _ rfl
        have HT := Lib.hid (show (l.take (k + 1)).map encStr = (l.take k).map encStr ++ [encStr x] by rw [List.take_add_one, hx]; simp)
        have HW2 := Lib.hid hW2
        replace hown := (Keep.of_below hb2).row hown (fun b h => (hown.lt b h).2)
        clear hv hc hW2 s2 hx hxo hr1 hg
        go_wp2_with fail
        rw [HW2.out]
        go_wp2_with fail
        refine con.mono ?_
        rintro e W3 ⟨rfl, hb3⟩
        have B3 := B2.trans (hb3.mono B2.size)
        replace hown := (Keep.of_below hb3).row hown (fun b h => (hown.lt b h).2)
        have hbs := B3.size
        have hNN := HN.out
        clear con x0 x1 x2 x3 x4 x5 y0 y1 y2 y3 y4 y5 hb2 HW2
        go_wp2_with (at_builtin; go_loud (refine wpList_append_own_at _ rfl _ _ 73 rfl W.heap.size 9 i0 (.string ByteArray.empty) 1 16 Tryz.underlying73 hi0 hz0 hz1 hz2 rfl (by decide) _ k ((l.take k).map encStr) rfl (hown.alloc _) ⟨W3.heap.size, 0, none⟩ 1 1 [encStr x] rfl rfl (cell_one_new _ _ _) (by simp [encStr, Value.oneCell']) (by unfold maxLen; omega) (by omega) (by simp; omega) ?_); intro v' w2 hown' hgrow _ hat)
        go_roundw
        case rel => exact ⟨k + 1, by omega, by go_num, B3.trans ((((below_alloc _).mono hbs)).trans ((Below.refl _ _).grown hgrow (by simp; omega) (fun b hb => (hown.lt b hb).1))), by rw [HT.out]; exact hown'⟩
        case measure => simp [intOf]; omega
      · have hkn : k = n := by omega
        have H := Lib.hid (show l.take k = l from List.take_of_length_le (by have := HLN.out; omega))
        rw [H.out] at hown
        subst hkn
        obtain ⟨q4, c4, rfl, hc4, _, hs4, _⟩ := slIn_of_owns hown
        obtain ⟨bk, o4, rfl, hbk, hcell⟩ := hs4.at HP.out
        have hSD := strs_data l
        have HJ := HTL.out
        have hln := HLN.out
        have hTJ : textS l = Lib.join l [32] := by
          cases l with
          | nil => have := HP.out; simp at hln; omega
          | cons p r => rw [join_pol]; rfl
        rw [hTJ] at HJ
        have con4 := Tryz.strings_Join bk o4 c4 (l.map fun p => ⟨p.toArray⟩) ⟨#[32]⟩ wr (fun j y hy => by
            rw [List.getElem?_map] at hy
            obtain ⟨z, hz, rfl⟩ := Option.map_eq_some_iff.1 hy
            exact hcell j z hz) hbk (by rw [List.length_map]; have := HN.out; omega) (by rw [List.length_map, hln]; exact hc4) (by rw [hSD]; exact Nat.le_trans HJ (by decide))
        rw [hSD, List.length_map, hln] at con4
        have HTJ := Lib.hid hTJ
        clear hown hcell hs4 hr1 hSD HJ hln hTJ H
        go_wp2_with fail
        refine con4.mono ?_
        rintro e w5 ⟨rfl, hb5⟩
        clear con4
        go_wp2
        go_ret
        exact ⟨by rw [HTJ.out]; rfl, A1.trans ((hB.trans (hb5.mono hB.size)).mono A1.size)⟩
end Go.Proofs.YtedglpfdibamdaaGreatDoor.Pol
namespace Go.Proofs.YtedglpfdibamdaaGreatDoor.Frm
open Go.RowKit Go.Shelf Go.Sort Url Org Cls
attribute [local go_sem] Oper.semAt_some
set_option linter.unusedVariables false
def singleR (p : List UInt8) : Sum Int (List (List (List UInt8))) := match ofC [p] with
  | .inl e => .inl e
  | .inr c => ofF [c]
theorem ofC_no (l : List (List UInt8)) (n : Int) (h : ofC l = .inl n) : n = 2 ∨ n = 3 := by
  unfold ofC at h
  split at h
  · split at h
    · cases h
    · cases h; exact .inr rfl
  · cases h; exact .inl rfl
set_option maxRecDepth 100000 in
set_option maxHeartbeats 8000000 in
theorem Single_any (p : List UInt8) (w : World) (hl : p.length ≤ 1300) (hG : Gl w) :
    Calls Tryz.prog 27 #[.string ⟨p.toArray⟩] w (FrmOut (singleR p) w) := by
  obtain ⟨W1, hW1⟩ : ∃ W1, (w.alloc (.cells #[.slice none 0 0] 31)).alloc (.cells #[.string ⟨p.toArray⟩] 9) = W1 := ⟨_, rfl⟩
  have A1 : Below w.heap.size w W1 := hW1 ▸ ((Below.refl _ w).alloc (Nat.le_refl _) _).alloc (by simp) _
  have b1 : Boxed W1 w.heap.size 31 (.slice none 0 0) := hW1 ▸ (Boxed.new w _ _).alloc _
  have bp : Boxed W1 (w.heap.size + 1) 9 (.string ⟨p.toArray⟩) := by
    have := Boxed.new (w.alloc (.cells #[.slice none 0 0] 31)) 9 (.string ⟨p.toArray⟩)
    rw [World.size_alloc] at this
    exact hW1 ▸ this
  have hsl : SlIn encStr W1 (some ⟨w.heap.size + 1, 0, none⟩) 1 [p] := ⟨rfl, fun _ => ⟨_, _, rfl, bp.lt, fun i x hx => by
    cases i with
    | zero => cases hx; exact bp.cell
    | succ i => simp at hx⟩⟩
  have con := Cls.Of_new (some ⟨w.heap.size + 1, 0, none⟩) 1 1 [p] W1 hsl (fun h => by cases h) (by decide) (fun t ht => by rw [List.mem_singleton.1 ht]; exact hl) (hG.on A1)
  have HW1 := Lib.hid hW1
  clear hW1 hsl bp hG hl
  go_enter Tryz.func27, Tryz.ntmps27
  go_wp2_with fail
  rw [HW1.out]
  refine con.mono ?_
  rintro e w2 ⟨q2, n2, c2, rfl, hs2, hq2, hb2⟩
  have kb := Keep.of_below hb2
  have A2 := A1.trans (hb2.mono A1.size)
  have b2 := (kb.boxed b1 b1.lt).alloc (.cells #[.slice q2 n2 c2] 77)
  have kf := b2.frozen
  have kc := b2.cell
  have hsA := A1.size
  have hlt1 := b1.lt
  have hs12 := hb2.size
  clear con
  cases hc : ofC [p] with
  | inl en =>
    have hne : en ≠ 0 := by rcases ofC_no _ en hc with h | h <;> omega
    have d2 : ((en : Int) != 0) = true := by unfold bne; rw [beq_eq_false_iff_ne.2 hne]; rfl
    have HR := Lib.hid (show singleR p = .inl en by unfold singleR; rw [hc])
    have A3 := (A2.alloc A2.size (.cells #[.slice q2 n2 c2] 77)).setCell (p := ⟨w.heap.size, 0, none⟩) (by simp) (.slice none 0 0)
    clear hne hc hs2
    unfold errC
    go_wp2
    refine bodyPost_ret (ret_frm2 rfl _ _ w.heap.size _ rfl (b2.set _)) rfl ?_
    rw [HR.out]
    exact ⟨none, 0, 0, rfl, frm_nil _, (fun a h => by cases h), A3⟩
  | inr cv =>
    rw [hc] at hs2
    replace hs2 : SetIs encStr w2 (.agg #[.slice q2 n2 c2]) cv := hs2
    have hfew := (of_ok _ cv hc).1.few
    have HR := Lib.hid (show singleR p = ofF [cv] by unfold singleR; rw [hc])
    obtain ⟨W3, hW3⟩ : ∃ W3, (w2.alloc (.cells #[.slice q2 n2 c2] 77)).alloc (.cells #[.slice q2 n2 c2] 77) = W3 := ⟨_, rfl⟩
    have hk3 : Below w2.heap.size w2 W3 := hW3 ▸ ((Below.refl _ w2).alloc (Nat.le_refl _) _).alloc (by simp) _
    have b3 : Boxed W3 w.heap.size 31 (.slice none 0 0) := hW3 ▸ b2.alloc _
    have bc : Boxed W3 (w2.heap.size + 1) 77 (.slice q2 n2 c2) := by
      have := Boxed.new (w2.alloc (.cells #[.slice q2 n2 c2] 77)) 77 (.slice q2 n2 c2)
      rw [World.size_alloc] at this
      exact hW3 ▸ this
    have A3 := A2.trans (hk3.mono A2.size)
    have hcl : ClsIn W3 (some ⟨w2.heap.size + 1, 0, none⟩) 1 [cv] := ⟨[((q2, n2, c2), cv)], ⟨rfl, fun _ => ⟨_, _, rfl, bc.lt, fun i x hx => by
      cases i with
      | zero => cases hx; exact bc.cell
      | succ i => simp at hx⟩⟩, fun z hz => by rw [List.mem_singleton.1 hz]; exact (⟨hs2, hfew⟩ : ClAt w2 ((q2, n2, c2), cv)).below hk3, rfl⟩
    have con2 := Of_any (some ⟨w2.heap.size + 1, 0, none⟩) 1 1 [cv] W3 hcl (fun h => by cases h) (by decide)
    have HW3 := Lib.hid hW3
    rw [← HR.out] at con2
    clear hc hs2 hW3 hcl bc kf kc b2
    unfold errC
    go_wp2_with fail
    rw [HW3.out]
    refine con2.mono ?_
    rintro e w4 ⟨q4, n4, c4, rfl, hs4, hq4, hb4⟩
    have b4 := (Keep.of_below hb4).boxed b3 b3.lt
    have A4 := A3.trans (hb4.mono A3.size)
    have kf := b4.frozen
    have kc := b4.cell
    have hb3l := b3.lt
    clear con2
    go_wp2
    refine bodyPost_ret (ret_frm2 rfl _ _ w.heap.size _ rfl (b4.set _)) rfl ?_
    exact ⟨q4, n4, c4, rfl, hs4.set b4 (fun x h => by cases h) (fun a ha => by have := hq4 a ha; omega), (fun a ha => Nat.le_trans A3.size (hq4 a ha)), A4.setCell (by simp) _⟩
end Go.Proofs.YtedglpfdibamdaaGreatDoor.Frm
namespace Go.Proofs.YtedglpfdibamdaaGreatDoor.Frm
open Go.RowKit Go.Shelf Go.Sort Url Org Cls
attribute [local go_sem] Oper.semAt_some
set_option linter.unusedVariables false
end Go.Proofs.YtedglpfdibamdaaGreatDoor.Frm
namespace Go.Proofs.YtedglpfdibamdaaGreatDoor.Pol
open Go.RowKit Go.Shelf Url Org Frm Cls
attribute [local go_sem] Oper.semAt_some
set_option linter.unusedVariables false
def domB (t : List UInt8) : Bool := decide (Host.parseE t = 0) && !Host.addressB (Ref.lowL t)
theorem dom_can (t : List UInt8) (h : Host.parseE t = 0) : Host.canL t = Ref.lowL t := by unfold Host.canL; rw [if_pos h]
theorem can_len (t : List UInt8) : (Host.canL t).length ≤ t.length := by
  unfold Host.canL
  split
  · unfold Ref.lowL; rw [List.length_map]; exact Nat.le_refl _
  · simp
theorem z6_no : ∀ (j : Nat) (x : Value), (#[.int .i64 0, .string ⟨#[]⟩, .string ⟨#[]⟩, .int .i64 0, .int .i64 0, .string ⟨#[]⟩] : Array Value)[j]? = some x → ∀ z : Int, x ≠ .int .u8 z := by
  intro j x hx z e
  subst e
  rcases (show j = 0 ∨ j = 1 ∨ j = 2 ∨ j = 3 ∨ j = 4 ∨ j = 5 ∨ 6 ≤ j by omega) with rfl | rfl | rfl | rfl | rfl | rfl | h
  all_goals first | (simp at hx; done) | (rw [Array.getElem?_eq_none (by simpa using h)] at hx; cases hx)
theorem sb_bytes {B o n : Nat} {cs : Array Value} {l : List Int} {X : World} (h : SB B cs X) (hc : ∀ i, i < n → X.cell? ⟨B, o + i, none⟩ = some (.int .u8 (l.getD i 0))) (hn : 0 < n) (hk : ∀ (j : Nat) (x : Value), cs[j]? = some x → ∀ z : Int, x ≠ .int .u8 z) : False := by
  have := hc 0 hn
  simp only [World.cell?, show X.heap[B]? = _ from h] at this
  exact hk _ _ this _ rfl
set_option maxRecDepth 100000 in
set_option maxHeartbeats 8000000 in
theorem parseDomain_any (q : Option Addr) (n c : Nat) (t : List UInt8) (w : World) (hby : By w (.slice q n c) t) (hn : n ≤ 1048576) :
    Calls Tryz.prog 68 #[.slice q n c] w fun e w' => e = .returned (.tuple #[.agg #[.int .i64 3, .string ⟨#[]⟩, .string ⟨#[]⟩, .int .i64 0, .int .i64 0, .string ⟨(Host.canL t).toArray⟩], .bool (domB t)]) ∧ Below w.heap.size w w' := by
  obtain ⟨X0, hX0⟩ : ∃ Z, w.alloc (.cells #[.int .i64 0, .string ⟨#[]⟩, .string ⟨#[]⟩, .int .i64 0, .int .i64 0, .string ⟨#[]⟩] 82) = Z := ⟨_, rfl⟩
  have A0 : Below w.heap.size w X0 := by rw [← hX0]; exact below_alloc _
  have b : SB w.heap.size #[.int .i64 0, .string ⟨#[]⟩, .string ⟨#[]⟩, .int .i64 0, .int .i64 0, .string ⟨#[]⟩] X0 := by rw [← hX0]; exact SB.new w _
  obtain ⟨h1, _, _, _, h5⟩ := (hby.on A0).at
  have con := Host.Parse_any q n c t X0 h1 (by omega) h5
  have HCL := Lib.hid (show (Host.canL t).length ≤ 1048576 by have := can_len t; omega)
  have HDC := Lib.hid (fun h => dom_can t h)
  unfold Host.CanOut at con
  obtain ⟨E, hE⟩ : ∃ e, Host.parseE t = e := ⟨_, rfl⟩
  have HDB := Lib.hid (show domB t = (decide (E = 0) && !Host.addressB (Ref.lowL t)) by unfold domB; rw [hE])
  rw [hE] at HDC con
  obtain ⟨db, hdb⟩ : ∃ b, domB t = b := ⟨_, rfl⟩
  rw [hdb] at HDB ⊢
  obtain ⟨C, hC⟩ : ∃ l, Host.canL t = l := ⟨_, rfl⟩
  rw [hC] at HDC HCL con ⊢
  obtain ⟨m, hm⟩ : ∃ m, C.length = m := ⟨_, rfl⟩
  have HX := Lib.hid hX0
  rw [hm] at HCL
  have HCM := Lib.hid hm
  clear hX0 h1 h5 hby hn hE hdb hC hm
  go_enter Tryz.func68, Tryz.ntmps68
  go_wp2_with fail
  rw [HX.out]
  refine con.mono ?_
  rintro e X1 ⟨v, rfl, hrow, hb⟩
  have A := A0.trans (hb.mono A0.size)
  replace b := b.on hb
  have hY := By.row hrow
  obtain ⟨q2, c2, rfl⟩ := by_form hY
  rw [HCM.out] at hY ⊢
  clear con hb A0 HX hrow
  obtain ⟨W, hW⟩ : ∃ Z, X1.drew = Z := ⟨_, rfl⟩
  have hb : Below X1.heap.size X1 W := hW ▸ ⟨rfl, rfl, rfl, Nat.le_refl _, fun _ _ => rfl⟩
  have A2 := A.trans (hb.mono A.size)
  replace b := b.on hb
  replace hY := hY.on hb
  have HW := Lib.hid hW
  clear hb hW A
  by_cases h0 : E = 0
  · subst h0
    have HDB2 := Lib.hid (show db = !Host.addressB C by rw [HDB.out, ← HDC.out rfl]; simp)
    clear HDB HDC
    have con := Host.Address_any q2 m c2 C W hY.at.1 (by have := HCL.out; omega) hY.at.2.2.2.2
    go_wp2_with fail
    refine pregion_any (fun X => By X (.slice q2 m c2) C) (by kernel_rfl) ?_
    rw [HW.out]
    refine wpAnyH_take (i := 0) (v := (.slice q2 m c2)) rfl (by kernel_rfl) (by kernel_rfl) (by kernel_rfl) (fun _ _ _ h => h) (.inl ⟨by kernel_rfl, ?_⟩) hY ?_
    · rintro w h1; go_simp <;> omega
    refine plist #[true, false, false, false, false, false, false, false, false, false, false, false] (by kernel_rfl) ?_
    refine wpAnyH_take (i := 1) (v := (.string ⟨C.toArray⟩)) rfl (by kernel_rfl) (by kernel_rfl) (by kernel_rfl) (fun _ _ _ h => h) (.inl ⟨by kernel_rfl, ?_⟩) hY ?_
    · rintro w h1; have k := conv_by h1; go_simp <;> omega
    refine plist #[true, true, false, false, false, false, false, false, false, false, false, false] (by kernel_rfl) ?_
    refine wpAnyH_take (i := 2) (v := (.agg #[.int .i64 3, .string ⟨#[]⟩, .string ⟨#[]⟩, .int .i64 0, .int .i64 0, .string ⟨C.toArray⟩])) rfl (by kernel_rfl) (by kernel_rfl) (by kernel_rfl) (fun _ _ _ h => h) (.inl ⟨by kernel_rfl, ?_⟩) hY ?_
    · rintro w h1; go_simp <;> omega
    refine plist #[true, true, true, false, false, false, false, false, false, false, false, false] (by kernel_rfl) ?_
    refine wpAnyH_take (i := 3) (v := (.int .i64 0)) rfl (by kernel_rfl) (by kernel_rfl) (by kernel_rfl) (fun _ _ _ h => h) (.inl ⟨by kernel_rfl, ?_⟩) hY ?_
    · rintro w h1; go_simp <;> omega
    refine plist #[true, true, true, true, false, false, false, false, false, false, false, false] (by kernel_rfl) ?_
    refine wpAnyH_take (i := 4) (v := (.bool true)) rfl (by kernel_rfl) (by kernel_rfl) (by kernel_rfl) (fun _ _ _ h => h) (.inl ⟨by kernel_rfl, ?_⟩) hY ?_
    · rintro w h1; go_simp <;> omega
    refine plist #[true, true, true, true, true, false, false, false, false, false, false, false] (by kernel_rfl) ?_
    refine wpAnyH_take (i := 5) (v := (.bool true)) rfl (by kernel_rfl) (by kernel_rfl) (by kernel_rfl) (fun _ _ _ h => h) (.inl ⟨by kernel_rfl, ?_⟩) hY ?_
    · rintro w h1; go_simp <;> omega
    refine plist #[true, true, true, true, true, true, false, false, false, false, false, false] (by kernel_rfl) ?_
    refine wpAnyH_take (i := 6) (v := (.slice q2 m c2)) rfl (by kernel_rfl) (by kernel_rfl) (by kernel_rfl) (fun _ _ _ h => h) (.inl ⟨by kernel_rfl, ?_⟩) hY ?_
    · rintro w h1; go_simp <;> omega
    have con0 := con
    refine plist #[true, true, true, true, true, true, true, false, false, false, false, false] (by kernel_rfl) ?_
    have con := con0
    refine pone 7 (by kernel_rfl) rfl fun K hK => ?_
    go_simp
    refine con.mono ?_
    rintro e X3 ⟨rfl, hb⟩
    have A3 := A2.trans (hb.mono A2.size)
    replace b := b.on hb
    replace hY := hY.on hb
    clear con hb con0 A2
    refine hK _ _ hY ?_
    clear hK K
    refine plist #[true, true, true, true, true, true, true, true, false, false, false, false] (by kernel_rfl) ?_
    refine wpAnyH_take (i := 8) (v := (.bool (!Host.addressB C))) rfl (by kernel_rfl) (by kernel_rfl) (by kernel_rfl) (fun _ _ _ h => h) (.inl ⟨by kernel_rfl, ?_⟩) hY ?_
    · rintro w h1; go_simp <;> omega
    refine plist #[true, true, true, true, true, true, true, true, true, false, false, false] (by kernel_rfl) ?_
    refine wpAnyH_take (i := 9) (v := (.bool (!Host.addressB C))) rfl (by kernel_rfl) (by kernel_rfl) (by kernel_rfl) (fun _ _ _ h => h) (.inl ⟨by kernel_rfl, ?_⟩) hY ?_
    · rintro w h1; go_simp <;> omega
    obtain ⟨Y, hYY, bY, hkY, hBY⟩ := b.put (.int .i64 3) (.string ⟨#[]⟩) (.string ⟨#[]⟩) (.int .i64 0) (.int .i64 0) (.string ⟨C.toArray⟩)
    have hYk : By Y (.slice q2 m c2) C := by
      obtain ⟨g1, g2, g3, g4, g5⟩ := hY.at
      refine By.of g1 g2 g3 (fun h => (g4 h).2) (bytes_keep g5 (hkY (fun b => b ≠ w.heap.size) (by simp)) ?_)
      intro a ha h0 hbk
      subst ha
      obtain ⟨bb, o, he, hcc⟩ := g5.at h0
      cases he
      simp only at hbk
      subst hbk
      exact sb_bytes b hcc h0 z6_no
    have z0 := b.box 0 _ rfl
    have z1 := b.box 1 _ rfl
    have z2 := b.box 2 _ rfl
    have z3 := b.box 3 _ rfl
    have z4 := b.box 4 _ rfl
    have z5 := b.box 5 _ rfl
    have f0 := b.frozen 0
    have f1 := b.frozen 1
    have f2 := b.frozen 2
    have f3 := b.frozen 3
    have f4 := b.frozen 4
    have f5 := b.frozen 5
    have HYY := Lib.hid hYY
    clear hYY b hkY hY
    refine plist #[true, true, true, true, true, true, true, true, true, true, false, false] (by kernel_rfl) ?_
    refine pone 10 (by kernel_rfl) rfl fun K hK => ?_
    go_simp
    rw [HYY.out]
    refine hK _ _ hYk ?_
    clear hK K
    clear z0 f0 z1 f1 z2 f2 z3 f3 z4 f4 z5 f5
    refine plist #[true, true, true, true, true, true, true, true, true, true, true, false] (by kernel_rfl) ?_
    refine pone 11 (by kernel_rfl) rfl fun K hK => ?_
    go_simp
    refine hK _ _ hYk ?_
    clear hK K
    refine pdone (by kernel_rfl) ?_ _
    go_wp2
    rw [HDB2.out]
    exact bodyPost_ret (ret_src2 rfl _ _ w.heap.size _ rfl bY rfl) rfl ⟨rfl, A3.trans (hBY _ (Nat.le_refl _))⟩
  · have HDB2 := Lib.hid (show db = false by rw [HDB.out]; simp [h0])
    have e0 : ((E : Int) == 0) = false := by rw [beq_eq_false_iff_ne]; exact h0
    clear HDB HDC h0
    go_wp2_with fail
    refine pregion_any (fun X => By X (.slice q2 m c2) C) (by kernel_rfl) ?_
    rw [HW.out]
    refine wpAnyH_take (i := 0) (v := (.slice q2 m c2)) rfl (by kernel_rfl) (by kernel_rfl) (by kernel_rfl) (fun _ _ _ h => h) (.inl ⟨by kernel_rfl, ?_⟩) hY ?_
    · rintro w h1; go_simp <;> omega
    refine plist #[true, false, false, false, false, false, false, false, false, false, false, false] (by kernel_rfl) ?_
    refine wpAnyH_take (i := 1) (v := (.string ⟨C.toArray⟩)) rfl (by kernel_rfl) (by kernel_rfl) (by kernel_rfl) (fun _ _ _ h => h) (.inl ⟨by kernel_rfl, ?_⟩) hY ?_
    · rintro w h1; have k := conv_by h1; go_simp <;> omega
    refine plist #[true, true, false, false, false, false, false, false, false, false, false, false] (by kernel_rfl) ?_
    refine wpAnyH_take (i := 2) (v := (.agg #[.int .i64 3, .string ⟨#[]⟩, .string ⟨#[]⟩, .int .i64 0, .int .i64 0, .string ⟨C.toArray⟩])) rfl (by kernel_rfl) (by kernel_rfl) (by kernel_rfl) (fun _ _ _ h => h) (.inl ⟨by kernel_rfl, ?_⟩) hY ?_
    · rintro w h1; go_simp <;> omega
    refine plist #[true, true, true, false, false, false, false, false, false, false, false, false] (by kernel_rfl) ?_
    refine wpAnyH_take (i := 3) (v := (.int .i64 E)) rfl (by kernel_rfl) (by kernel_rfl) (by kernel_rfl) (fun _ _ _ h => h) (.inl ⟨by kernel_rfl, ?_⟩) hY ?_
    · rintro w h1; go_simp <;> omega
    refine plist #[true, true, true, true, false, false, false, false, false, false, false, false] (by kernel_rfl) ?_
    refine wpAnyH_take (i := 4) (v := (.bool false)) rfl (by kernel_rfl) (by kernel_rfl) (by kernel_rfl) (fun _ _ _ h => h) (.inl ⟨by kernel_rfl, ?_⟩) hY ?_
    · rintro w h1; go_simp <;> omega
    refine plist #[true, true, true, true, true, false, false, false, false, false, false, false] (by kernel_rfl) ?_
    refine wpAnyH_take (i := 5) (v := (.bool false)) rfl (by kernel_rfl) (by kernel_rfl) (by kernel_rfl) (fun _ _ _ h => h) (.inl ⟨by kernel_rfl, ?_⟩) hY ?_
    · rintro w h1; go_simp <;> omega
    have A3 := A2
    refine plist #[true, true, true, true, true, true, false, false, false, false, false, false] (by kernel_rfl) ?_
    refine wpAnyH_take (i := 6) (v := (undef)) rfl (by kernel_rfl) (by kernel_rfl) (by kernel_rfl) (fun _ _ _ h => h) (.inr ⟨by kernel_rfl, rfl⟩) hY ?_
    refine plist #[true, true, true, true, true, true, true, false, false, false, false, false] (by kernel_rfl) ?_
    refine wpAnyH_take (i := 7) (v := (undef)) rfl (by kernel_rfl) (by kernel_rfl) (by kernel_rfl) (fun _ _ _ h => h) (.inr ⟨by kernel_rfl, rfl⟩) hY ?_
    refine plist #[true, true, true, true, true, true, true, true, false, false, false, false] (by kernel_rfl) ?_
    refine wpAnyH_take (i := 8) (v := (undef)) rfl (by kernel_rfl) (by kernel_rfl) (by kernel_rfl) (fun _ _ _ h => h) (.inr ⟨by kernel_rfl, rfl⟩) hY ?_
    refine plist #[true, true, true, true, true, true, true, true, true, false, false, false] (by kernel_rfl) ?_
    refine wpAnyH_take (i := 9) (v := (.bool false)) rfl (by kernel_rfl) (by kernel_rfl) (by kernel_rfl) (fun _ _ _ h => h) (.inl ⟨by kernel_rfl, ?_⟩) hY ?_
    · rintro w h1; go_simp <;> omega
    obtain ⟨Y, hYY, bY, hkY, hBY⟩ := b.put (.int .i64 3) (.string ⟨#[]⟩) (.string ⟨#[]⟩) (.int .i64 0) (.int .i64 0) (.string ⟨C.toArray⟩)
    have hYk : By Y (.slice q2 m c2) C := by
      obtain ⟨g1, g2, g3, g4, g5⟩ := hY.at
      refine By.of g1 g2 g3 (fun h => (g4 h).2) (bytes_keep g5 (hkY (fun b => b ≠ w.heap.size) (by simp)) ?_)
      intro a ha h0 hbk
      subst ha
      obtain ⟨bb, o, he, hcc⟩ := g5.at h0
      cases he
      simp only at hbk
      subst hbk
      exact sb_bytes b hcc h0 z6_no
    have z0 := b.box 0 _ rfl
    have z1 := b.box 1 _ rfl
    have z2 := b.box 2 _ rfl
    have z3 := b.box 3 _ rfl
    have z4 := b.box 4 _ rfl
    have z5 := b.box 5 _ rfl
    have f0 := b.frozen 0
    have f1 := b.frozen 1
    have f2 := b.frozen 2
    have f3 := b.frozen 3
    have f4 := b.frozen 4
    have f5 := b.frozen 5
    have HYY := Lib.hid hYY
    clear hYY b hkY hY
    refine plist #[true, true, true, true, true, true, true, true, true, true, false, false] (by kernel_rfl) ?_
    refine pone 10 (by kernel_rfl) rfl fun K hK => ?_
    go_simp
    rw [HYY.out]
    refine hK _ _ hYk ?_
    clear hK K
    clear z0 f0 z1 f1 z2 f2 z3 f3 z4 f4 z5 f5
    refine plist #[true, true, true, true, true, true, true, true, true, true, true, false] (by kernel_rfl) ?_
    refine pone 11 (by kernel_rfl) rfl fun K hK => ?_
    go_simp
    refine hK _ _ hYk ?_
    clear hK K
    refine pdone (by kernel_rfl) ?_ _
    go_wp2
    rw [HDB2.out]
    exact bodyPost_ret (ret_src2 rfl _ _ w.heap.size _ rfl bY rfl) rfl ⟨rfl, A3.trans (hBY _ (Nat.le_refl _))⟩
set_option maxRecDepth 100000 in
theorem under_eq {q : Option Addr} {n c : Nat} {t : List UInt8} {w : World} (hby : By w (.slice q n c) t) (h : Lib.hasPrefix t underS = true) :
    2 ≤ n ∧ Lib.trimPrefixV q n c (Lib.numsL t) (Lib.numsL underS) = .slice (subA q c 2) (n - 2) (c - 2) := by
  obtain ⟨h1, h2, h3, h4, h5⟩ := hby.at
  have h7 : 2 ≤ n := by
    have := (List.isPrefixOf_iff_prefix.1 h).length_le
    rw [h1] at this; exact this
  refine ⟨h7, ?_⟩
  obtain ⟨b, o, rfl, _⟩ := h5.at (by omega)
  show Lib.bytesTrimPrefix b o n c (Lib.numsL t) (Lib.numsL underS) = _
  unfold Lib.bytesTrimPrefix Lib.sliceFrom subA
  rw [bytesOf_numsL, bytesOf_numsL, h, if_pos rfl]
  show Value.slice (if c = 2 then _ else _) _ _ = _
  split <;> rfl
theorem under_no {q : Option Addr} {n c : Nat} {t : List UInt8} {w : World} (hby : By w (.slice q n c) t) (h : Lib.hasPrefix t underS = false) :
    Lib.trimPrefixV q n c (Lib.numsL t) (Lib.numsL underS) = .slice q n c := by
  obtain ⟨h1, h2, h3, h4, h5⟩ := hby.at
  unfold Lib.trimPrefixV
  split
  · unfold Lib.bytesTrimPrefix
    rw [bytesOf_numsL, bytesOf_numsL, h, if_neg (by simp)]
  · rfl
theorem Cut_under (q : Option Addr) (n c : Nat) (t : List UInt8) (X : World) (a : Option Addr) (hby : By X (.slice q n c) t) (hs : By X (.slice a 2 2) underS) :
    Calls Tryz.prog 67 #[.slice q n c, .slice a 2 2] X fun e w' => e = .returned (.tuple #[if underS.isPrefixOf t = true then .slice (subA q c 2) (n - 2) (c - 2) else .slice q n c, .bool (underS.isPrefixOf t)]) ∧ w' = X := by
  obtain ⟨h1, h2, h3, h4, h5⟩ := hby.at
  refine (Tryz.bytes_CutPrefix_all q a n c 2 2 (Lib.numsL t) (Lib.numsL underS) X (by rw [Lib.numsL_length, h1]) rfl h2 h5 hs.at.2.2.2.2).mono ?_
  rintro e w' ⟨rfl, rfl⟩
  rw [bytesOf_numsL, bytesOf_numsL]
  have e : Lib.hasPrefix t underS = underS.isPrefixOf t := rfl
  refine ⟨?_, rfl⟩
  cases hp : underS.isPrefixOf t with
  | true => rw [(under_eq hby (e.trans hp)).2, e, hp, if_pos rfl]
  | false => rw [under_no hby (e.trans hp), e, hp, if_neg (by simp)]
def PsOut (t : List UInt8) (w : World) (e : Ending) (w' : World) : Prop :=
  ∃ (k : Int) (s g : List UInt8) (p m : Int) (d : List UInt8), e = .returned (.tuple #[.agg #[.int .i64 k, .string ⟨s.toArray⟩, .string ⟨g.toArray⟩, .int .i64 p, .int .i64 m, .string ⟨d.toArray⟩], .bool (srcL t).isSome]) ∧ (∀ c, srcL t = some c → [.int .i64 k, .string ⟨s.toArray⟩, .string ⟨g.toArray⟩, .int .i64 p, .int .i64 m, .string ⟨d.toArray⟩] = cellsP (srcP c)) ∧ Below w.heap.size w w'
theorem src_dom (t : List UInt8) (h1 : ¬ (t = selfS ∨ t = allS)) (h2 : underS.isPrefixOf t = true) : (srcL t).isSome = domB (t.drop 2) := by
  unfold srcL domB
  rw [if_neg h1, if_pos h2]
  by_cases h3 : Host.parseE (t.drop 2) = 0
  · cases h4 : Host.addressB (Ref.lowL (t.drop 2)) with
    | true => rw [if_neg (by rintro ⟨_, h⟩; cases h)]; simp
    | false => rw [if_pos ⟨h3, rfl⟩]; simp [h3]
  · rw [if_neg (fun h => h3 h.1)]; simp [h3]
theorem dom_cells (t c : List UInt8) (hP : PieceOk t) (h1 : ¬ (t = selfS ∨ t = allS)) (h2 : underS.isPrefixOf t = true) (h : srcL t = some c) : [.int .i64 3, .string ⟨#[]⟩, .string ⟨#[]⟩, .int .i64 0, .int .i64 0, .string ⟨(Host.canL (t.drop 2)).toArray⟩] = cellsP (srcP c) := by
  rw [← src_same t c hP h, srcP_u t h1 h2]
  unfold srcL at h
  rw [if_neg h1, if_pos h2] at h
  split at h
  · rename_i h3
    rw [dom_can _ h3.1]
    rfl
  · cases h
theorem src_org (t : List UInt8) (h1 : ¬ (t = selfS ∨ t = allS)) (h2 : ¬ underS.isPrefixOf t = true) : (srcL t).isSome = decide (qE (parseQ 1099511627776 t) = 0) := by
  unfold srcL
  rw [if_neg h1, if_neg h2]
  cases h : parseQ 1099511627776 t with
  | inl e =>
    have := Q_err _ _ _ h
    simp [qE, this]
  | inr x => simp [qE]
theorem org_cells (t c : List UInt8) (hP : PieceOk t) (h1 : ¬ (t = selfS ∨ t = allS)) (h2 : ¬ underS.isPrefixOf t = true) (h : srcL t = some c) : cellsP (2, (qOf (parseQ 1099511627776 t), [])) = cellsP (srcP c) := by
  rw [← src_same t c hP h, srcP_q t h1 h2]
set_option maxRecDepth 100000 in
set_option maxHeartbeats 8000000 in
theorem parseSource_any (q : Option Addr) (n c : Nat) (t : List UInt8) (w : World) (hby : By w (.slice q n c) t) (hP : PieceOk t) (hG : Gl w) :
    Calls Tryz.prog 41 #[.slice q n c] w (PsOut t w) := by
  have kc := fun (w : World) (C : Array Value) (n c : Nat) => Lib.run_convert_bytes_const (P := Tryz.prog) w 22 5 C n c Tryz.underlying22 Tryz.underlying5
  obtain ⟨X0, hX0⟩ : ∃ Z, w.alloc (.cells #[.int .i64 0, .string ⟨#[]⟩, .string ⟨#[]⟩, .int .i64 0, .int .i64 0, .string ⟨#[]⟩] 82) = Z := ⟨_, rfl⟩
  have A0 : Below w.heap.size w X0 := by rw [← hX0]; exact below_alloc _
  have b : SB w.heap.size #[.int .i64 0, .string ⟨#[]⟩, .string ⟨#[]⟩, .int .i64 0, .int .i64 0, .string ⟨#[]⟩] X0 := by rw [← hX0]; exact SB.new w _
  have hs0 : X0.heap.size = w.heap.size + 1 := by rw [← hX0, World.size_alloc]
  have hby0 := hby.on A0
  have hcv := conv_by hby0
  have hln := hby.at.1
  have hn : n ≤ 4096 := by have := hP.1; omega
  have e1 : (t == [115, 101, 108, 102]) = decide (t = selfS) := by
    rw [Bool.eq_iff_iff, beq_iff_eq, decide_eq_true_iff]; rfl
  have e2 : (t == [42]) = decide (t = allS) := by
    rw [Bool.eq_iff_iff, beq_iff_eq, decide_eq_true_iff]; rfl
  have HX := Lib.hid hX0
  by_cases c1 : t = selfS
  · subst c1
    have z0 := b.box 0 _ rfl
    have z1 := b.box 1 _ rfl
    have z2 := b.box 2 _ rfl
    have z3 := b.box 3 _ rfl
    have z4 := b.box 4 _ rfl
    have z5 := b.box 5 _ rfl
    have f0 := b.frozen 0
    have f1 := b.frozen 1
    have f2 := b.frozen 2
    have f3 := b.frozen 3
    have f4 := b.frozen 4
    have f5 := b.frozen 5
    obtain ⟨Y, hY, bY, _, hBY⟩ := b.put (.int .i64 0) (.string ⟨#[]⟩) (.string ⟨#[]⟩) (.int .i64 0) (.int .i64 0) (.string ⟨#[]⟩)
    have HY := Lib.hid hY
    clear hX0 hby hby0 hln hn hG hP kc hs0 e2 b hY
    rw [decide_eq_true rfl] at e1
    go_enter Tryz.func41, Tryz.ntmps41
    go_wp2_with fail
    rw [HX.out, hcv]
    go_wp2
    rw [HY.out]
    (try simp only [Exit.inBlock, Exit.then])
    refine bodyPost_ret (ret_src2 rfl _ _ w.heap.size _ rfl bY rfl) rfl ?_
    exact ⟨0, [], [], 0, 0, [], rfl, fun c hc => by cases hc; rfl, A0.trans (hBY _ (Nat.le_refl _))⟩
  have d1 : (t == [115, 101, 108, 102]) = false := by rw [e1, decide_eq_false c1]
  by_cases c2 : t = allS
  · subst c2
    have z0 := b.box 0 _ rfl
    have z1 := b.box 1 _ rfl
    have z2 := b.box 2 _ rfl
    have z3 := b.box 3 _ rfl
    have z4 := b.box 4 _ rfl
    have z5 := b.box 5 _ rfl
    have f0 := b.frozen 0
    have f1 := b.frozen 1
    have f2 := b.frozen 2
    have f3 := b.frozen 3
    have f4 := b.frozen 4
    have f5 := b.frozen 5
    obtain ⟨Y, hY, bY, _, hBY⟩ := b.put (.int .i64 1) (.string ⟨#[]⟩) (.string ⟨#[]⟩) (.int .i64 0) (.int .i64 0) (.string ⟨#[]⟩)
    have HY := Lib.hid hY
    clear hX0 hby hby0 hln hn hG hP kc hs0 e1 b hY c1
    rw [decide_eq_true rfl] at e2
    go_enter Tryz.func41, Tryz.ntmps41
    go_wp2_with fail
    rw [HX.out, hcv]
    go_wp2
    rw [HY.out]
    (try simp only [Exit.inBlock, Exit.then])
    refine bodyPost_ret (ret_src2 rfl _ _ w.heap.size _ rfl bY rfl) rfl ?_
    exact ⟨1, [], [], 0, 0, [], rfl, fun c hc => by cases hc; rfl, A0.trans (hBY _ (Nat.le_refl _))⟩
  have d2 : (t == [42]) = false := by rw [e2, decide_eq_false c2]
  have HC := Lib.hid (show ¬ (t = selfS ∨ t = allS) from fun h => h.elim c1 c2)
  clear e1 e2 c1 c2
  obtain ⟨X1, hX1⟩ : ∃ Z, X0.alloc (.cells #[.int .u8 42, .int .u8 46] 5 (2, 3)) = Z := ⟨_, rfl⟩
  have hb : Below X0.heap.size X0 X1 := by rw [← hX1]; exact below_alloc _
  have A1 := A0.trans (hb.mono A0.size)
  replace b := b.on hb
  have hlit := by_lit X0 #[.int .u8 42, .int .u8 46] underS (2, 3) 2 rfl rfl (by decide)
  rw [hX1, hs0] at hlit
  have T1 := hby0.on hb
  have con := Cut_under q n c t X1 _ T1 hlit
  have kc1 := kc X0 #[.int .u8 42, .int .u8 46] 2 2
  rw [hs0] at kc1
  have kc2 : (convert 22 22 (.slice (some ⟨w.heap.size + 1, 0, none⟩) 2 2)).run Tryz.prog (X0.alloc (.cells #[.int .u8 42, .int .u8 46] 5)) = .ok (.slice (some ⟨w.heap.size + 1, 0, none⟩) 2 2) X1 := kc1.trans (by rw [← hX1]; rfl)
  have HX1 := Lib.hid hX1
  have HS0 := Lib.hid hs0
  have HG := Lib.hid hG
  have HP := Lib.hid hP
  clear hX0 hX1 hlit hby hby0 hG hP A0 hb hs0 kc kc1
  cases hp : underS.isPrefixOf t with
  | true =>
    rw [hp, if_pos rfl] at con
    have h2 : 2 ≤ n := (under_eq T1 hp).1
    have con2 := parseDomain_any (subA q c 2) (n - 2) (c - 2) (t.drop 2) X1 (T1.drop h2) (by omega)
    have HD := Lib.hid (src_dom t HC.out hp)
    have HE := Lib.hid (fun c h => dom_cells t c HP.out HC.out hp h)
    obtain ⟨C, hC⟩ : ∃ l, Host.canL (t.drop 2) = l := ⟨_, rfl⟩
    rw [hC] at con2 HE
    generalize domB (t.drop 2) = db at con2 HD
    clear hp T1 hC hln
    go_enter Tryz.func41, Tryz.ntmps41
    go_wp2_with fail
    rw [HX.out, hcv]
    go_wp2_with fail
    rewrite [HS0.out, kc2]
    go_wp2_with fail
    refine con.mono ?_
    rintro e X2 ⟨rfl, rfl⟩
    clear con kc2 hcv
    go_wp2_with fail
    refine con2.mono ?_
    rintro e X3 ⟨rfl, hb⟩
    have A3 := A1.trans (hb.mono A1.size)
    replace b := b.on hb
    clear con2 hb A1 HX HX1 HS0
    have z0 := b.box 0 _ rfl
    have z1 := b.box 1 _ rfl
    have z2 := b.box 2 _ rfl
    have z3 := b.box 3 _ rfl
    have z4 := b.box 4 _ rfl
    have z5 := b.box 5 _ rfl
    have f0 := b.frozen 0
    have f1 := b.frozen 1
    have f2 := b.frozen 2
    have f3 := b.frozen 3
    have f4 := b.frozen 4
    have f5 := b.frozen 5
    obtain ⟨Y, hY, bY, _, hBY⟩ := b.put (.int .i64 3) (.string ⟨#[]⟩) (.string ⟨#[]⟩) (.int .i64 0) (.int .i64 0) (.string ⟨C.toArray⟩)
    have HY := Lib.hid hY
    clear hY b
    go_wp2
    rw [HY.out]
    (try simp only [Exit.inBlock, Exit.then])
    refine bodyPost_ret (ret_src2 rfl _ _ w.heap.size _ rfl bY rfl) rfl ?_
    exact ⟨3, [], [], 0, 0, C, by rw [HD.out]; rfl, HE.out, A3.trans (hBY _ (Nat.le_refl _))⟩
  | false =>
    rw [hp, if_neg (by simp)] at con
    have hpn : ¬ underS.isPrefixOf t = true := by rw [hp]; simp
    have con2 := Org.Parse_any q n c t X1 T1 hn (HG.out.on A1) HP.out.2
    rw [ret_q] at con2
    have HD := Lib.hid (src_org t HC.out hpn)
    have HE := Lib.hid (fun c h => org_cells t c HP.out HC.out hpn h)
    obtain ⟨en, hen⟩ : ∃ e, qE (parseQ 1099511627776 t) = e := ⟨_, rfl⟩
    obtain ⟨x, hx⟩ : ∃ x, qOf (parseQ 1099511627776 t) = x := ⟨_, rfl⟩
    rw [hen] at con2 HD
    rw [hx] at con2 HE
    obtain ⟨⟨⟨s, g⟩, ⟨p, m⟩⟩, hq⟩ : ∃ y, partsQ x = y := ⟨_, rfl⟩
    have hQ : orgQ x = .agg #[.string ⟨s.toArray⟩, .string ⟨g.toArray⟩, .int .i64 p, .int .i64 m] := by unfold orgQ orgV; rw [hq]
    have HQ := Lib.hid (show cellsP (2, (x, [])) = [.int .i64 2, .string ⟨s.toArray⟩, .string ⟨g.toArray⟩, .int .i64 p, .int .i64 m, .string ⟨#[]⟩] by unfold cellsP; simp only [hq])
    rw [hQ] at con2
    rw [HQ.out] at HE
    clear hp hpn T1 hln hn hen hx hq hQ HQ
    go_enter Tryz.func41, Tryz.ntmps41
    go_wp2_with fail
    rw [HX.out, hcv]
    go_wp2_with fail
    rewrite [HS0.out, kc2]
    go_wp2_with fail
    refine con.mono ?_
    rintro e X2 ⟨rfl, rfl⟩
    clear con kc2 hcv
    go_wp2_with fail
    refine con2.mono ?_
    rintro e X3 ⟨rfl, hb⟩
    have hbx : Below X3.heap.size X3 (X3.alloc (.cells #[.string ⟨s.toArray⟩, .string ⟨g.toArray⟩, .int .i64 p, .int .i64 m] 25)) := below_alloc _
    have A3 := (A1.trans (hb.mono A1.size)).trans (hbx.mono (A1.trans (hb.mono A1.size)).size)
    replace b := (b.on hb).on hbx
    have o := OB.new X3 #[.string ⟨s.toArray⟩, .string ⟨g.toArray⟩, .int .i64 p, .int .i64 m]
    clear con2 hb hbx A1 HX HX1 HS0
    have y0 := o.box 0 _ rfl
    have y1 := o.box 1 _ rfl
    have y2 := o.box 2 _ rfl
    have y3 := o.box 3 _ rfl
    have z0 := b.box 0 _ rfl
    have z1 := b.box 1 _ rfl
    have z2 := b.box 2 _ rfl
    have z3 := b.box 3 _ rfl
    have z4 := b.box 4 _ rfl
    have z5 := b.box 5 _ rfl
    have f0 := b.frozen 0
    have f1 := b.frozen 1
    have f2 := b.frozen 2
    have f3 := b.frozen 3
    have f4 := b.frozen 4
    have f5 := b.frozen 5
    obtain ⟨Y, hY, bY, _, hBY⟩ := b.put (.int .i64 2) (.string ⟨s.toArray⟩) (.string ⟨g.toArray⟩) (.int .i64 p) (.int .i64 m) (.string ⟨#[]⟩)
    have HY := Lib.hid hY
    clear hY b o
    go_wp2
    rw [HY.out]
    (try simp only [Exit.inBlock, Exit.then])
    refine bodyPost_ret (ret_src2 rfl _ _ w.heap.size _ rfl bY rfl) rfl ?_
    exact ⟨2, s, g, p, m, [], by rw [HD.out]; congr 4, HE.out, A3.trans (hBY _ (Nat.le_refl _))⟩
end Go.Proofs.YtedglpfdibamdaaGreatDoor.Pol
namespace Go.Proofs.YtedglpfdibamdaaGreatDoor.Frm
open Go.RowKit Go.Shelf Go.Sort Url Org Cls
attribute [local go_sem] Oper.semAt_some
set_option linter.unusedVariables false
def OrL (Bo : Nat) (RB : Nat → Prop) (W0 : World) (Pv : Nat → Prop) (W : World) (acc : List (List (List UInt8))) : Prop :=
  ∃ v, ∃ ls : List Cl, Boxed W Bo 29 v ∧ W.ownsRow W0.heap.size 77 1 v ls.length (ls.map encC) ∧ (∀ z ∈ ls, ClAt W z ∧ ∀ a, z.1.1 = some a → 0 < z.1.2.1 → ¬ Pv a.block ∧ W0.heap.size ≤ a.block ∧ v.ownBlock ≠ some a.block) ∧ ls.map Prod.snd = acc ∧
    (∀ b, Pv b → W0.heap.size ≤ b) ∧ (∀ b, v.ownBlock = some b → ¬ Pv b) ∧ Keep RB W0 W
theorem OrL.step {Bo : Nat} {RB Pv Pv' : Nat → Prop} {W0 A B : World} {acc : List (List (List UInt8))} (h : OrL Bo RB W0 Pv A acc) (hBo : Bo < W0.heap.size) (hRB : ∀ b, RB b → b < W0.heap.size) (hk : Keep (fun b => ¬ Pv b) A B) (hp : ∀ b, Pv' b → (Pv b ∨ A.heap.size ≤ b)) : OrL Bo RB W0 Pv' B acc := by
  obtain ⟨v, ls, h1, h2, hz, hc, h3, h5, h6⟩ := h
  have hs := h6.size
  refine ⟨v, ls, hk.boxed h1 (fun h => by have := h3 _ h; omega), hk.row h2 h5, fun z hz' => ⟨(hz z hz').1.from hk (fun a ha h0 => ((hz z hz').2 a ha h0).1), fun a ha h0 => ⟨fun hp' => ?_, ((hz z hz').2 a ha h0).2⟩⟩, hc, fun b hb => ?_, fun b hb hp' => ?_, h6.trans (hk.mono fun b _ hb hpb => by have := h3 b hpb; have := hRB b hb; omega)⟩
  · rcases hp _ hp' with h | h
    · exact ((hz z hz').2 a ha h0).1 h
    · have := (hz z hz').1.lt a ha h0; omega
  · rcases hp b hb with h | h
    · exact h3 b h
    · omega
  · rcases hp _ hp' with h | h
    · exact h5 b hb h
    · have := (h2.lt b hb).2; omega
def OrX (w : World) (ok : Prop) (W0 : World) (c : Code) (Pv : Nat → Prop) (W : World) : Prop :=
  c = .ret ∧ Boxed W (w.heap.size + 2) 31 (.slice none 0 0) ∧ Boxed W (w.heap.size + 3) 43 (.int .i64 3) ∧ ok ∧ Below w.heap.size w W ∧ (∀ b, Pv b → W0.heap.size ≤ b) ∧ W0.heap.size ≤ W.heap.size
theorem OrX.step {w W0 A B : World} {ok : Prop} {c : Code} {Pv Pv' : Nat → Prop} (h : OrX w ok W0 c Pv A) (h0 : w.heap.size + 4 ≤ W0.heap.size) (hk : Keep (fun b => ¬ Pv b) A B) (hp : ∀ b, Pv' b → (Pv b ∨ A.heap.size ≤ b)) : OrX w ok W0 c Pv' B := by
  obtain ⟨hc, h1, h2, h3, h4, h5, h6⟩ := h
  have hs := hk.size
  refine ⟨hc, hk.boxed h1 (fun h => by have := h5 _ h; omega), hk.boxed h2 (fun h => by have := h5 _ h; omega), h3, h4.trans ((hk.mono fun b _ hb hpb => by have := h5 b hpb; omega).below h4.size), fun b hb => ?_, by omega⟩
  rcases hp b hb with h | h
  · exact h5 b h
  · omega
end Go.Proofs.YtedglpfdibamdaaGreatDoor.Frm
namespace Go.Proofs.YtedglpfdibamdaaGreatDoor.Frm
open Go.RowKit Go.Shelf Go.Sort Url Org Cls
attribute [local go_sem] Oper.semAt_some
set_option linter.unusedVariables false
end Go.Proofs.YtedglpfdibamdaaGreatDoor.Frm
namespace Go.Proofs.YtedglpfdibamdaaGreatDoor.Frm
open Go.RowKit Go.Shelf Go.Sort Url Org Cls
attribute [local go_sem] Oper.semAt_some
set_option linter.unusedVariables false
end Go.Proofs.YtedglpfdibamdaaGreatDoor.Frm
namespace Go.Proofs.YtedglpfdibamdaaGreatDoor.Lbl
open Go.RowKit Go.Shelf Go.Sort Url Org Cls Frm
attribute [local go_sem] Oper.semAt_some
set_option linter.unusedVariables false
def LabIs (w : World) (v : Value) (l : Lab) : Prop := ∃ q1 n1 c1 q2 n2 c2, v = .agg #[.slice q1 n1 c1, .slice q2 n2 c2] ∧ FrmIs w (.agg #[.slice q1 n1 c1]) l.s ∧ FrmIs w (.agg #[.slice q2 n2 c2]) l.i
theorem LabIs.below {w w' : World} {v : Value} {l : Lab} (h : LabIs w v l) (hb : Below w.heap.size w w') : LabIs w' v l := by
  obtain ⟨q1, n1, c1, q2, n2, c2, rfl, h1, h2⟩ := h
  exact ⟨q1, n1, c1, q2, n2, c2, rfl, h1.below hb, h2.below hb⟩
theorem lab_open (w : World) : LabIs w (.agg #[.slice none 0 0, .slice none 0 0]) ⟨[], []⟩ := ⟨none, 0, 0, none, 0, 0, rfl, frm_nil w, frm_nil w⟩
def LB (B : Nat) (cs : Array Value) (X : World) : Prop := X.heap[B]? = some (.cells cs 33 (0, 0))
theorem LB.box {B : Nat} {cs : Array Value} {X : World} (h : LB B cs X) : Box B cs X := fun i x hx => by
  simp only [World.cell?, show X.heap[B]? = _ from h]; exact hx
theorem LB.frozen {B : Nat} {cs : Array Value} {X : World} (h : LB B cs X) (i : Nat) : X.frozen? ⟨B, i, none⟩ = false := by
  simp [World.frozen?, show X.heap[B]? = _ from h]
theorem LB.on {B : Nat} {cs : Array Value} {X Y : World} (h : LB B cs X) (hk : Below X.heap.size X Y) : LB B cs Y := (hk.block B (Array.getElem?_eq_some_iff.1 h).1).trans h
theorem LB.lt {B : Nat} {cs : Array Value} {X : World} (h : LB B cs X) : B < X.heap.size := (Array.getElem?_eq_some_iff.1 h).1
theorem LB.new (w : World) (cs : Array Value) : LB w.heap.size cs (w.alloc (.cells cs 33)) := World.alloc_heap_new w _
theorem LB.set {B : Nat} {cs : Array Value} {X : World} (h : LB B cs X) (i : Nat) (v : Value) : LB B (cs.setIfInBounds i v) (X.setCell ⟨B, i, none⟩ v) := by
  obtain ⟨hlt, hk⟩ := Array.getElem?_eq_some_iff.1 h
  show (X.heap.modify B _)[B]? = _
  rw [Array.getElem?_eq_getElem (by rw [Array.size_modify]; exact hlt), Array.getElem_modify_self, hk]
  rfl
theorem LB.put {B : Nat} {X : World} {a0 a1 : Value} (h : LB B #[a0, a1] X) (v0 v1 : Value) :
    ∃ Y, (X.setCell ⟨B, 0, none⟩ v0).setCell ⟨B, 1, none⟩ v1 = Y ∧ LB B #[v0, v1] Y ∧ (∀ S : Nat → Prop, ¬ S B → Keep S X Y) ∧ ∀ M, M ≤ B → Below M X Y := by
  have h8 := (h.set 0 v0).set 1 v1
  simp only [List.setIfInBounds_toArray, List.set_cons_zero, List.set_cons_succ] at h8
  refine ⟨_, rfl, h8, fun S hS => ?_, fun M hM => ?_⟩
  · exact (Keep.setCell _ _ _ hS).trans (Keep.setCell _ _ _ hS)
  · exact ((Below.refl M X).setCell (p := ⟨B, 0, none⟩) hM v0).setCell (p := ⟨B, 1, none⟩) hM v1
theorem size_lab : (Tryz.prog.info? 33).map (·.size) = some 2 := by kernel_rfl
theorem ret_lab {fn : Func} {p : Tmp} (h : fn.results = #[.cell p 33]) (tmps : Array Value) (w : World) (B : Nat) (cs : Array Value) (hp : tmps.getD p undef = .pointer (some ⟨B, 0, none⟩)) (hU : LB B cs w) (hs : cs.size = 2) :
    (results fn tmps).run Tryz.prog w = .ok (.agg cs) w :=
  results_cell_row h tmps w B _ cs (0, 0) _ hp hU Tryz.underlying33 rfl (by rw [size_lab, hs])
theorem ret_lab2 {fn : Func} {p u : Tmp} (h : fn.results = #[.cell p 33, .tmp u]) (tmps : Array Value) (w : World) (B : Nat) (cs : Array Value) (hp : tmps.getD p undef = .pointer (some ⟨B, 0, none⟩)) (hU : LB B cs w) (hs : cs.size = 2) :
    (results fn tmps).run Tryz.prog w = .ok (.tuple #[.agg cs, tmps.getD u undef]) w := by
  rw [results_cell_tmp h, hp]
  simp [asAddr, Result.andThen, run_loadVar_row w B 33 _ cs (0, 0) _ hU Tryz.underlying33 rfl (by rw [size_lab, hs])]
theorem slIn_ne_lb {w : World} {q : Option Addr} {n : Nat} {xs : List (List UInt8)} {B : Nat} {s0 s1 : Value} (h : SlIn encStr w q n xs) (hB : LB B #[s0, s1] w) (h0 : ∀ x, encStr x ≠ s0) (h1 : ∀ x, encStr x ≠ s1) : ∀ a, q = some a → 0 < n → a.block ≠ B := by
  rintro a rfl hn rfl
  obtain ⟨b, o, he, _, hc⟩ := h.at hn
  cases he
  cases xs with
  | nil => have := h.1; simp at this; omega
  | cons x xs =>
    have k1 := hc 0 x rfl
    have k2 : w.heap[b]? = some (.cells #[s0, s1] 33 (0, 0)) := hB
    simp only [World.cell?, k2] at k1
    rcases (show o = 0 ∨ o = 1 ∨ 2 ≤ o by omega) with ho | ho | ho
    · subst ho; simp at k1; exact h0 x k1.symm
    · subst ho; simp at k1; exact h1 x k1.symm
    · simp at k1; rw [List.getElem?_eq_none (by simp; omega)] at k1; cases k1
theorem FrmIs.off {w Y : World} {q : Option Addr} {n c : Nat} {f : List (List (List UInt8))} {B : Nat} {q1 q2 : Option Addr} {n1 c1 n2 c2 : Nat} (h : FrmIs w (.agg #[.slice q n c]) f) (hB : LB B #[.slice q1 n1 c1, .slice q2 n2 c2] w)
    (hq : ∀ a, q = some a → 0 < n → a.block ≠ B) (hk : Keep (fun b => b ≠ B) w Y) : FrmIs Y (.agg #[.slice q n c]) f := by
  obtain ⟨h1, h2, zs, s, z, rfl⟩ := h.row
  exact ⟨q, n, c, rfl, h1, h2, zs, s.keep hk hq, fun x hx => (z x hx).from hk fun a ha h0 => by
    obtain ⟨_, _, _, he, _, _, hs, _⟩ := (z x hx).set
    cases he
    exact slIn_ne_lb hs hB (fun x h => by cases h) (fun x h => by cases h) a ha h0, rfl⟩
theorem FrmIs.lt {w : World} {q : Option Addr} {n c : Nat} {f : List (List (List UInt8))} (h : FrmIs w (.agg #[.slice q n c]) f) : ∀ a, q = some a → 0 < n → a.block < w.heap.size := h.row.2.2.lt
def Few (l : Lab) : Prop := l.s.length ≤ 16 ∧ l.i.length ≤ 16
theorem LB.two (w : World) (cs ds : Array Value) : LB (w.heap.size + 1) ds ((w.alloc (.cells cs 33)).alloc (.cells ds 33)) := by
  have := LB.new (w.alloc (.cells cs 33)) ds
  rw [World.size_alloc] at this
  exact this
theorem Never_new (w : World) : Calls Tryz.prog 31 #[] w fun e w' => e = .returned (.agg #[.slice (some ⟨w.heap.size + 1, 0, none⟩) 1 1]) ∧ FrmIs w' (.agg #[.slice (some ⟨w.heap.size + 1, 0, none⟩) 1 1]) [[]] ∧ Below w.heap.size w w' := by
  obtain ⟨W, hW⟩ : ∃ W, (w.alloc (.cells #[.slice (some ⟨w.heap.size + 1, 0, none⟩) 1 1] 31)).alloc (.cells #[.slice none 0 0] 77) = W := ⟨_, rfl⟩
  have b0 : Boxed W w.heap.size 31 (.slice (some ⟨w.heap.size + 1, 0, none⟩) 1 1) := hW ▸ (Boxed.new w _ _).alloc _
  have b1 : Boxed W (w.heap.size + 1) 77 (.slice none 0 0) := by
    have := Boxed.new (w.alloc (.cells #[.slice (some ⟨w.heap.size + 1, 0, none⟩) 1 1] 31)) 77 (.slice none 0 0)
    rw [World.size_alloc] at this
    exact hW ▸ this
  have hb : Below w.heap.size w W := hW ▸ ((Below.refl _ w).alloc (Nat.le_refl _) _).alloc (by simp) _
  have HW := Lib.hid hW
  have k0 := b0.cell
  have hf : FrmIs W (.agg #[.slice (some ⟨w.heap.size + 1, 0, none⟩) 1 1]) [[]] := ⟨_, _, _, rfl, (fun h => by cases h), Nat.le_refl _, [((none, 0, 0), [])], ⟨rfl, fun _ => ⟨_, _, rfl, b1.lt, fun i x hx => by
    cases i with
    | zero => cases hx; exact b1.cell
    | succ i => simp at hx⟩⟩, fun z hz => by rw [List.mem_singleton.1 hz]; exact ⟨set_nil _, by simp⟩, rfl⟩
  clear hW b0 b1
  go_enter Tryz.func31, Tryz.ntmps31
  go_wp2
  rw [HW.out]
  refine bodyPost_ret (v := .agg #[.slice (some ⟨w.heap.size + 1, 0, none⟩) 1 1]) (by simp [results, Tryz.f31, go_sem, k0]) rfl ?_
  exact ⟨rfl, hf, hb⟩
set_option maxRecDepth 100000 in
set_option maxHeartbeats 4000000 in
theorem Open_any (w : World) : Calls Tryz.prog 13 #[] w fun e w' => ∃ v, e = .returned v ∧ LabIs w' v ⟨[], []⟩ ∧ Below w.heap.size w w' := by
  obtain ⟨W1, hW1⟩ : ∃ W1, w.alloc (.cells #[.slice none 0 0, .slice none 0 0] 33) = W1 := ⟨_, rfl⟩
  have A1 : Below w.heap.size w W1 := hW1 ▸ below_alloc _
  have b1 : LB w.heap.size #[.slice none 0 0, .slice none 0 0] W1 := hW1 ▸ LB.new w _
  have HW1 := Lib.hid hW1
  have HL1 := Lib.hid b1.lt
  clear hW1
  go_enter Tryz.func13, Tryz.ntmps13
  go_wp2_with fail
  rw [HW1.out]
  clear HW1
  have con := Always_any W1
  refine con.mono ?_
  rintro e w2 ⟨rfl, hb⟩
  have fS : FrmIs w2 (.agg #[.slice none 0 0]) [] := frm_nil _
  have nS : ∀ a, (none : Option Addr) = some a → 0 < 0 → a.block ≠ w.heap.size := fun a h => by cases h
  have b2 := b1.on hb
  have A2 := A1.trans (hb.mono A1.size)
  replace HL1 := Lib.hid b2.lt
  clear con hb b1
  have con := Always_any w2
  go_wp2_with fail
  refine con.mono ?_
  rintro e w3 ⟨rfl, hb⟩
  have fI : FrmIs w3 (.agg #[.slice none 0 0]) [] := frm_nil _
  have nI : ∀ a, (none : Option Addr) = some a → 0 < 0 → a.block ≠ w.heap.size := fun a h => by cases h
  replace fS := fS.below hb
  have b3 := b2.on hb
  have A3 := A2.trans (hb.mono A2.size)
  replace HL1 := Lib.hid b3.lt
  clear con hb b2
  have kf0 := b3.frozen 0
  have kf1 := b3.frozen 1
  have z0 := b3.box 0 _ rfl
  have z1 := b3.box 1 _ rfl
  obtain ⟨Y, hY, b4, hk, hB4⟩ := b3.put (.slice none 0 0) (.slice none 0 0)
  have HY := Lib.hid hY
  have rS := FrmIs.off fS b3 nS (hk _ (by simp))
  have rI := FrmIs.off fI b3 nI (hk _ (by simp))
  clear hY fS fI nS nI
  go_wp2
  rw [HY.out]
  refine bodyPost_ret (ret_lab rfl _ _ w.heap.size _ rfl b4 rfl) rfl ?_
  exact ⟨_, rfl, ⟨_, _, _, _, _, _, rfl, rS, rI⟩, A3.trans (hB4 _ (Nat.le_refl _))⟩
end Go.Proofs.YtedglpfdibamdaaGreatDoor.Lbl
namespace Go.Proofs.YtedglpfdibamdaaGreatDoor.Lbl
open Go.RowKit Go.Shelf Go.Sort Url Org Cls Frm
attribute [local go_sem] Oper.semAt_some
set_option linter.unusedVariables false
set_option maxRecDepth 100000 in
set_option maxHeartbeats 8000000 in
theorem Flows_any (v1 v2 : Value) (l o : Lab) (w : World) (h1 : LabIs w v1 l) (h2 : LabIs w v2 o) (fl : Few l) (fo : Few o) :
    Calls Tryz.prog 22 #[v1, v2] w fun e w' => e = .returned (.bool (flowsB l o)) ∧ Below w.heap.size w w' := by
  obtain ⟨q1, n1, c1, q2, n2, c2, rfl, s1, i1⟩ := h1
  obtain ⟨q3, n3, c3, q4, n4, c4, rfl, s2, i2⟩ := h2
  obtain ⟨W, hW⟩ : ∃ W, (w.alloc (.cells #[.slice q1 n1 c1, .slice q2 n2 c2] 33)).alloc (.cells #[.slice q3 n3 c3, .slice q4 n4 c4] 33) = W := ⟨_, rfl⟩
  have A1 : Below w.heap.size w W := hW ▸ ((Below.refl _ w).alloc (Nat.le_refl _) _).alloc (by simp) _
  have b0 : LB w.heap.size #[.slice q1 n1 c1, .slice q2 n2 c2] W := hW ▸ (LB.new w _).on (below_alloc _)
  have b1 : LB (w.heap.size + 1) #[.slice q3 n3 c3, .slice q4 n4 c4] W := hW ▸ LB.two w _ _
  have x0 := b0.box 0 _ rfl
  have y0 := b1.box 0 _ rfl
  have con := Frm.Implies_any _ _ o.s l.s W (s2.below A1) (s1.below A1) (by have := fo.1; omega) (by have := fl.1; omega)
  have HC := Lib.hid (fun X (hb : Below w.heap.size w X) => Frm.Implies_any _ _ l.i o.i X (i1.below hb) (i2.below hb) (by have := fl.2; omega) (by have := fo.2; omega))
  have HF := Lib.hid (show flowsB l o = (impB o.s l.s && impB l.i o.i) from rfl)
  have HW := Lib.hid hW
  obtain ⟨A, hA⟩ : ∃ A, impB o.s l.s = A := ⟨_, rfl⟩
  rw [hA] at con HF
  clear hW s1 i1 s2 i2 fl fo hA
  go_enter Tryz.func22, Tryz.ntmps22
  go_wp2_with fail
  rw [HW.out]
  refine con.mono ?_
  rintro e w2 ⟨rfl, hb⟩
  have A2 := A1.trans (hb.mono A1.size)
  have x1 := (b0.on hb).box 1 _ rfl
  have y1 := (b1.on hb).box 1 _ rfl
  clear x0 y0 b0 b1 hb con HW A1
  cases A with
  | false =>
    clear HC
    go_wp2
    go_ret
    exact ⟨by rw [HF.out]; rfl, A2⟩
  | true =>
    have con := HC.out w2 A2
    go_wp2_with fail
    refine con.mono ?_
    rintro e w3 ⟨rfl, hb⟩
    have A3 := A2.trans (hb.mono A2.size)
    clear con hb x1 y1
    go_wp2
    go_ret
    exact ⟨by rw [HF.out]; rfl, A3⟩
end Go.Proofs.YtedglpfdibamdaaGreatDoor.Lbl
namespace Go.Proofs.YtedglpfdibamdaaGreatDoor.Lbl
open Go.RowKit Go.Shelf Go.Sort Url Org Cls Frm
attribute [local go_sem] Oper.semAt_some
set_option linter.unusedVariables false
def LabOut (r : Sum Int Lab) (w : World) (e : Ending) (w' : World) : Prop :=
  ∃ q1 n1 c1 q2 n2 c2, e = .returned (.tuple #[.agg #[.slice q1 n1 c1, .slice q2 n2 c2], .int .i64 (labE r)]) ∧ FrmIs w' (.agg #[.slice q1 n1 c1]) (labV r).s ∧ FrmIs w' (.agg #[.slice q2 n2 c2]) (labV r).i ∧
    (∀ a, q1 = some a → 0 < n1 → w.heap.size ≤ a.block) ∧ (∀ a, q2 = some a → 0 < n2 → w.heap.size ≤ a.block) ∧ Below w.heap.size w w'
theorem labOut_open {w w' : World} (n : Int) (h : Below w.heap.size w w') : LabOut (.inl n) w (.returned (.tuple #[.agg #[.slice none 0 0, .slice none 0 0], .int .i64 n])) w' :=
  ⟨none, 0, 0, none, 0, 0, rfl, frm_nil _, frm_nil _, (fun a h => by cases h), (fun a h => by cases h), h⟩
end Go.Proofs.YtedglpfdibamdaaGreatDoor.Lbl
namespace Go.Proofs.YtedglpfdibamdaaGreatDoor.Lbl
open Go.RowKit Go.Shelf Go.Sort Url Org Cls Frm
attribute [local go_sem] Oper.semAt_some
set_option linter.unusedVariables false
set_option maxRecDepth 100000 in
set_option maxHeartbeats 16000000 in
theorem Parse_any (q : Option Addr) (n c : Nat) (t : List UInt8) (w : World) (hby : By w (.slice q n c) t) (hn : n ≤ 1099511627775) (hp : n ≤ 4096 → (atFst 59 t).length ≤ 1300 ∧ (atSnd 59 t).length ≤ 1300) (hG : Gl w) :
    Calls Tryz.prog 50 #[.slice q n c] w (LabOut (parseL t) w) := by
  obtain ⟨W, hW⟩ : ∃ W, w.alloc (.cells #[.slice none 0 0, .slice none 0 0] 33) = W := ⟨_, rfl⟩
  have A1 : Below w.heap.size w W := hW ▸ below_alloc _
  have b8 : LB w.heap.size #[.slice none 0 0, .slice none 0 0] W := hW ▸ LB.new w _
  have HSZ := Lib.hid (show W.heap.size = w.heap.size + 1 by rw [← hW]; simp)
  obtain ⟨h1, h2, h3, h4, h5⟩ := (hby.on A1).at
  have HL := Lib.hid h1
  have HW := Lib.hid hW
  have con := At_any q n c t 59 W h1 hn h2 h4 h5
  have hGW := Lib.hid (hG.on A1)
  clear hW h1 h2 h3 h4 h5 hby hG
  go_enter Tryz.func50, Tryz.ntmps50
  by_cases hlong : 4096 < n
  · have d : decide ((4096 : Int) < (n : Int)) = true := by simp; omega
    have HR := Lib.hid (show parseL t = .inl 3 by unfold parseL; rw [if_pos (by rw [HL.out]; exact hlong)])
    have kf0 := b8.frozen 0
    have kf1 := b8.frozen 1
    have z0 := b8.box 0 _ rfl
    have z1 := b8.box 1 _ rfl
    rw [← HW.out] at kf0 kf1 z0 z1
    clear con hlong hp
    go_wp2
    rw [HW.out]
    refine bodyPost_ret (ret_lab2 rfl _ _ w.heap.size _ rfl b8 rfl) rfl ?_
    rw [HR.out]
    exact labOut_open 3 A1
  · have d : decide ((4096 : Int) < (n : Int)) = false := by simp; omega
    have hl4 : ¬ 4096 < t.length := by rw [HL.out]; exact hlong
    obtain ⟨p1, p2⟩ := hp (by omega)
    have HP2 := Lib.hid (parseL_two t hl4)
    have HP1 := Lib.hid (parseL_one t hl4)
    have HPB := Lib.hid (parseL_both t hl4)
    have HA0 := Lib.hid (show atOk 59 (atSnd 59 t) = true → atOk 59 t = true from fun h => by
      cases e : atOk 59 t with
      | true => rfl
      | false => rw [at_no_snd _ _ e, at_nil] at h; cases h)
    have HNF := Lib.hid (parseF_no (atFst 59 t))
    have HNS := Lib.hid (parseF_no (atSnd 59 t))
    obtain ⟨t1, ht1⟩ : ∃ x, atFst 59 t = x := ⟨_, rfl⟩
    obtain ⟨t2, ht2⟩ : ∃ x, atSnd 59 t = x := ⟨_, rfl⟩
    obtain ⟨k1, hk1⟩ : ∃ x, atOk 59 t = x := ⟨_, rfl⟩
    obtain ⟨r, hr⟩ : ∃ r, parseL t = r := ⟨_, rfl⟩
    rw [ht1, hk1, ht2] at con
    rw [ht1] at HNF p1
    rw [ht2] at HNS p2
    rw [hr, ht2] at HP2
    rw [hr, ht1, hk1] at HP1
    rw [hr, ht1, ht2, hk1] at HPB
    rw [ht2, hk1] at HA0
    rw [hr]
    clear hlong hp hl4 ht1 ht2 hk1 hr HL
    go_wp2_with fail
    rw [HW.out]
    refine con.mono ?_
    rintro e w2 ⟨v1, v2, rfl, r1, r2, hb⟩
    have A2 := A1.trans (hb.mono A1.size)
    have y1 := By.row r1
    have y2 := By.row r2
    obtain ⟨qa, ca, rfl⟩ := by_form y1
    obtain ⟨qb, cb, rfl⟩ := by_form y2
    replace b8 := b8.on hb
    have hG2 := Lib.hid (hGW.out.on hb)
    obtain ⟨m1, m2, m3, m4, m5⟩ := y2.at
    have con := At_any qb t2.length cb t2 59 w2 rfl (by omega) m2 m4 m5
    obtain ⟨k2, hk2⟩ : ∃ x, atOk 59 t2 = x := ⟨_, rfl⟩
    rw [hk2] at con HP2 HA0 HPB
    have Y1 := Lib.hid y1
    have Y2 := Lib.hid y2
    clear hb r1 r2 A1 HW m1 m2 m3 m4 m5 hk2 y1 y2 hGW
    go_wp2_with fail
    refine con.mono ?_
    rintro e w3 ⟨v3, v4, rfl, _, _, hb⟩
    have A3 := A2.trans (hb.mono A2.size)
    replace b8 := b8.on hb
    replace Y1 := Lib.hid (Y1.out.on hb)
    replace Y2 := Lib.hid (Y2.out.on hb)
    have hG3 := Lib.hid (hG2.out.on hb)
    have HS3 := Lib.hid (show w.heap.size < w3.heap.size from b8.lt)
    clear con hb A2 hG2
    cases k2 with
    | true =>
      have HR := HP2.out rfl
      have kf0 := b8.frozen 0
      have kf1 := b8.frozen 1
      have z0 := b8.box 0 _ rfl
      have z1 := b8.box 1 _ rfl
      obtain ⟨Y, hY, bY, _, hBY⟩ := b8.put (.slice none 0 0) (.slice none 0 0)
      have A4 := A3.trans (hBY _ (Nat.le_refl _))
      have HY := Lib.hid hY
      clear hY HP1 HPB
      subst HR
      go_wp2
      rw [HY.out]
      refine bodyPost_ret (ret_lab2 rfl _ _ w.heap.size _ rfl bY rfl) rfl ?_
      exact labOut_open 2 A4
    | false =>
      have con := Frm.Parse_any qa t1.length ca t1 w3 Y1.out (.inl p1) hG3.out
      obtain ⟨f1, hf1⟩ : ∃ r, parseF t1 = r := ⟨_, rfl⟩
      rw [hf1] at con HNF HP1 HPB
      clear HP2 HA0 hf1 Y1
      go_wp2_with fail
      refine con.mono ?_
      rintro e w4 ⟨q5, n5, c5, rfl, f5, k5, hb⟩
      have A4 := A3.trans (hb.mono A3.size)
      have hba : Below w4.heap.size w4 (w4.alloc (.cells #[.slice q5 n5 c5] 31)) := below_alloc _
      have A5 := A4.trans (hba.mono A4.size)
      replace b8 := (b8.on hb).on hba
      replace Y2 := Lib.hid ((Y2.out.on hb).on hba)
      have hG5 := Lib.hid ((hG3.out.on hb).on hba)
      have bx : Boxed (w4.alloc (.cells #[.slice q5 n5 c5] 31)) w4.heap.size 31 (.slice q5 n5 c5) := Boxed.new w4 _ _
      replace f5 := f5.below hba
      have K5 := Lib.hid (show ∀ a, q5 = some a → 0 < n5 → w.heap.size < a.block from fun a h _ => by have := k5 a h; have := HS3.out; omega)
      have HS4 := Lib.hid (show w.heap.size < w4.heap.size by have := HS3.out; have := hb.size; omega)
      have kf0 := b8.frozen 0
      have kf1 := b8.frozen 1
      have z0 := b8.box 0 _ rfl
      have z1 := b8.box 1 _ rfl
      have cx := bx.cell
      obtain ⟨Y, hY, bY, hkY, hBY⟩ := b8.put (.slice q5 n5 c5) (.slice none 0 0)
      have A6 := A5.trans (hBY _ (Nat.le_refl _))
      have g5 := FrmIs.off f5 b8 (fun a h h0 => by have := K5.out a h h0; omega) (hkY _ (by simp))
      have HY := Lib.hid hY
      clear con hb k5 hba hY hG3 A3 A4
      cases f1 with
      | inl e1 =>
        have hne : e1 ≠ 0 := by rcases HNF.out e1 rfl with h | h <;> omega
        have d2 : ((e1 : Int) != 0) = true := by unfold bne; rw [beq_eq_false_iff_ne.2 hne]; rfl
        have HR : r = .inl e1 := by
          cases k1 with
          | true => rw [HPB.out (by first | rfl | trivial) (by first | rfl | trivial)]
          | false => rw [HP1.out (by first | rfl | trivial)]
        subst HR
        clear hne HP1 HPB HNF f5 bx b8
        unfold frmE
        go_wp2
        rw [HY.out]
        refine bodyPost_ret (ret_lab2 rfl _ _ w.heap.size _ rfl bY rfl) rfl ?_
        exact ⟨q5, n5, c5, none, 0, 0, rfl, g5, frm_nil _, (fun a h h0 => by have := K5.out a h h0; omega), (fun a h => by cases h), A6⟩
      | inr f =>
        replace f5 : FrmIs _ (.agg #[.slice q5 n5 c5]) f := f5
        replace g5 : FrmIs Y (.agg #[.slice q5 n5 c5]) f := g5
        cases k1 with
        | false =>
          have HR : r = .inr ⟨f, []⟩ := by rw [HP1.out (by first | rfl | trivial)]
          subst HR
          clear HP1 HPB HNF f5 bx b8
          unfold frmE
          go_wp2
          rw [HY.out]
          refine bodyPost_ret (ret_lab2 rfl _ _ w.heap.size _ rfl bY rfl) rfl ?_
          exact ⟨q5, n5, c5, none, 0, 0, rfl, g5, frm_nil _, (fun a h h0 => by have := K5.out a h h0; omega), (fun a h => by cases h), A6⟩
        | true =>
          have con := Frm.Parse_any qb t2.length cb t2 _ Y2.out (.inl p2) hG5.out
          obtain ⟨f2, hf2⟩ : ∃ r, parseF t2 = r := ⟨_, rfl⟩
          have HPR := HPB.out (by first | rfl | trivial) (by first | rfl | trivial)
          rw [hf2] at con HNS HPR
          have HPQ := Lib.hid HPR
          clear HPR hf2 HP1 HPB HNF Y2 g5 bY hkY hBY A6 HY kf0 kf1 z0 z1 cx
          unfold frmE
          go_wp2_with fail
          refine con.mono ?_
          rintro e w6 ⟨q6, n6, c6, rfl, f6, k6, hb⟩
          have A6 := A5.trans (hb.mono A5.size)
          have hba : Below w6.heap.size w6 (w6.alloc (.cells #[.slice q6 n6 c6] 31)) := below_alloc _
          have A7 := A6.trans (hba.mono A6.size)
          replace b8 := (b8.on hb).on hba
          replace bx := (Keep.of_below hba).boxed ((Keep.of_below hb).boxed bx bx.lt) (Nat.lt_of_lt_of_le bx.lt hb.size)
          have by2 : Boxed (w6.alloc (.cells #[.slice q6 n6 c6] 31)) w6.heap.size 31 (.slice q6 n6 c6) := Boxed.new w6 _ _
          replace f5 := (f5.below hb).below hba
          replace f6 := f6.below hba
          have K6 := Lib.hid (show ∀ a, q6 = some a → 0 < n6 → w.heap.size < a.block from fun a h _ => by
            have h1 := k6 a h
            have h2 := HS4.out
            rw [World.size_alloc] at h1
            omega)
          have kf0 := b8.frozen 0
          have kf1 := b8.frozen 1
          have z0 := b8.box 0 _ rfl
          have z1 := b8.box 1 _ rfl
          clear con hb k6 hba A5 A6
          cases f2 with
          | inl e2 =>
            have hne : e2 ≠ 0 := by rcases HNS.out e2 rfl with h | h <;> omega
            have d2 : ((e2 : Int) != 0) = true := by unfold bne; rw [beq_eq_false_iff_ne.2 hne]; rfl
            have HR : r = .inl e2 := by rw [HPQ.out]
            subst HR
            obtain ⟨Y, hY, bY, _, hBY⟩ := b8.put (.slice none 0 0) (.slice none 0 0)
            have A8 := A7.trans (hBY _ (Nat.le_refl _))
            have HY := Lib.hid hY
            clear hne HPQ HNS f5 f6 bx by2 b8 hY
            unfold frmE
            go_wp2
            rw [HY.out]
            refine bodyPost_ret (ret_lab2 rfl _ _ w.heap.size _ rfl bY rfl) rfl ?_
            exact labOut_open e2 A8
          | inr g =>
            replace f6 : FrmIs _ (.agg #[.slice q6 n6 c6]) g := f6
            have HR : r = .inr ⟨f, g⟩ := by rw [HPQ.out]
            subst HR
            obtain ⟨Y, hY, bY, hkY, hBY⟩ := b8.put (.slice q5 n5 c5) (.slice q6 n6 c6)
            have A8 := A7.trans (hBY _ (Nat.le_refl _))
            have g5 := FrmIs.off f5 b8 (fun a h h0 => by have := K5.out a h h0; omega) (hkY _ (by simp))
            have g6 := FrmIs.off f6 b8 (fun a h h0 => by have := K6.out a h h0; omega) (hkY _ (by simp))
            have HY := Lib.hid hY
            have c10 := bx.cell
            have c12 := by2.cell
            clear HPQ HNS f5 f6 bx by2 b8 hY
            unfold frmE
            go_wp2
            rw [HY.out]
            refine bodyPost_ret (ret_lab2 rfl _ _ w.heap.size _ rfl bY rfl) rfl ?_
            exact ⟨q5, n5, c5, q6, n6, c6, rfl, g5, g6, (fun a h h0 => by have := K5.out a h h0; omega), (fun a h h0 => by have := K6.out a h h0; omega), A8⟩
end Go.Proofs.YtedglpfdibamdaaGreatDoor.Lbl
namespace Go.Proofs.YtedglpfdibamdaaGreatDoor.Lbl
open Go.RowKit Go.Shelf Go.Sort Url Org Cls Frm
attribute [local go_sem] Oper.semAt_some
set_option linter.unusedVariables false
theorem lab_form {w : World} {v : Value} {l : Lab} (h : LabIs w v l) : ∃ q1 n1 c1 q2 n2 c2, v = .agg #[.slice q1 n1 c1, .slice q2 n2 c2] := by
  obtain ⟨q1, n1, c1, q2, n2, c2, rfl, _⟩ := h
  exact ⟨q1, n1, c1, q2, n2, c2, rfl⟩
theorem lok_few {l : Lab} (h : LOk l) : Few l := ⟨h.s.few, h.i.few⟩
end Go.Proofs.YtedglpfdibamdaaGreatDoor.Lbl
namespace Go.Proofs.YtedglpfdibamdaaGreatDoor.Pol
open Go.RowKit Go.Shelf Url Org Frm Cls
attribute [local go_sem] Oper.semAt_some
set_option linter.unusedVariables false
theorem info_src : (Tryz.prog.info? 82).map (fun i => (i.zero, i.size, i.bytes)) = some (some (.agg #[.int .i64 0, .string ⟨#[]⟩, .string ⟨#[]⟩, .int .i64 0, .int .i64 0, .string ⟨#[]⟩]), 6, 72) := by kernel_rfl
theorem ret_srcs22 {fn : Func} {p u : Tmp} (h : fn.results = #[.cell p 36, .cell u 43]) (tmps : Array Value) (w : World) (B Be : Nat) (v x : Value) (hp : tmps.getD p undef = .pointer (some ⟨B, 0, none⟩)) (hu : tmps.getD u undef = .pointer (some ⟨Be, 0, none⟩)) (hU : Boxed w B 36 v) (hE : w.cell? ⟨Be, 0, none⟩ = some x) :
    (results fn tmps).run Tryz.prog w = .ok (.tuple #[.agg #[v], x]) w := by
  rw [results_cell_cell h, hp, hu]
  have ha : ∀ w', (isAgg 43).run Tryz.prog w' = .ok false w' := Tryz.isAgg43
  have h2 : (loadVar 43 ⟨Be, 0, none⟩).run Tryz.prog w = .ok x w := by simp [loadVar, ha, hE]
  simp [asAddr, Result.andThen, run_loadVar_row w B 36 _ #[v] (0, 0) _ hU Tryz.underlying36 rfl (by kernel_rfl), h2]
theorem cells_new (w : World) (cs : Array Value) (t : TypeId) : ∀ j u, cs.toList[j]? = some u → (w.alloc (.cells cs t)).cell? ((⟨w.heap.size, 0, none⟩ : Addr).add j) = some u := fun j u h => by
  rw [Go.WideShapes.add_plain]
  have hn : (w.alloc (.cells cs t)).heap[w.heap.size]? = some (.cells cs t) := World.alloc_heap_new w _
  simp only [World.cell?, hn, Nat.zero_add]
  simpa using h
theorem row_form {W : World} {base : Nat} {e : TypeId} {size n : Nat} {v : Value} {xs : List Value} (h : W.ownsRow base e size v n xs) : ∃ q c, v = .slice q n c := by
  rcases h.2 with ⟨rfl, hm⟩ | ⟨g, cap, cur, rfl, _⟩
  · have hz : n = 0 := by assumption
    subst hz
    exact ⟨none, 0, rfl⟩
  · exact ⟨_, _, rfl⟩
def srcsV (l : List (List UInt8)) : List Value := l.flatMap fun x => cellsP (srcP x)
theorem srcsV_get : ∀ (l : List (List UInt8)) (i : Nat) (x : List UInt8), l[i]? = some x → ∀ j v, (cellsP (srcP x))[j]? = some v → (srcsV l)[i * 6 + j]? = some v
  | [], i, x, h => by simp at h
  | y :: r, 0, x, h => by
    simp at h; subst h
    intro j v hv
    have e : srcsV (y :: r) = cellsP (srcP y) ++ srcsV r := rfl
    rw [e, Nat.zero_mul, Nat.zero_add, List.getElem?_append_left (List.getElem?_eq_some_iff.1 hv).1]
    exact hv
  | y :: r, i + 1, x, h => by
    have h' : r[i]? = some x := by simpa using h
    intro j v hv
    have ih := srcsV_get r i x h' j v hv
    have e : srcsV (y :: r) = cellsP (srcP y) ++ srcsV r := rfl
    have hl : (cellsP (srcP y)).length = 6 := rfl
    rw [e, List.getElem?_append_right (by rw [hl]; omega), hl, show (i + 1) * 6 + j - 6 = i * 6 + j by omega]
    exact ih
theorem src_open {W : World} {base n : Nat} {v : Value} {l : List (List UInt8)} (h : W.ownsRow base 82 6 v n (srcsV l)) (hn : l.length = n) :
    ∃ q c, v = .slice q n c ∧ (q = none → c = 0) ∧ n ≤ c ∧ SrcIn W q n l ∧ (∀ a, q = some a → base ≤ a.block ∧ a.block < W.heap.size ∧ v.ownBlock = some a.block) := by
  rcases h.2 with ⟨rfl, hm⟩ | ⟨g, cap, cur, rfl, hb, hg, h1, h2, h3, h4⟩
  · have hz : n = 0 := by assumption
    subst hz
    have hz0 : l = [] := List.eq_nil_of_length_eq_zero hn
    subst hz0
    exact ⟨none, 0, rfl, fun _ => rfl, Nat.le_refl _, SrcIn.nil _ _, fun a ha => by cases ha⟩
  · have hgl := (Array.getElem?_eq_some_iff.1 hg).1
    refine ⟨some ⟨g, 0, none⟩, cap, rfl, (fun h => by cases h), h1, ⟨hn, fun _ => ⟨g, 0, rfl, hgl, fun i x hx j u hu => ?_⟩⟩, fun a ha => by cases ha; exact ⟨hb, hgl, rfl⟩⟩
    have hi : i < l.length := (List.getElem?_eq_some_iff.1 hx).1
    have hj : j < 6 := (List.getElem?_eq_some_iff.1 hu).1
    have hc := srcsV_get l i x hx j u hu
    rw [← h4, List.getElem?_take, if_pos (by omega)] at hc
    simp only [World.cell?, hg, Nat.zero_add]
    simpa using hc
def PsI (Bo : Nat) (RB : Nat → Prop) (W0 : World) (pre : List (List UInt8)) (Pv : Nat → Prop) (W : World) : Prop :=
  ∃ v, ∃ ls : List (List UInt8), Boxed W Bo 34 v ∧ W.ownsRow W0.heap.size 82 6 v ls.length (srcsV ls) ∧ Hid (∀ r, goS [] (pre ++ r) = goS ls r) ∧
    (∀ b, Pv b → W0.heap.size ≤ b) ∧ (∀ b, v.ownBlock = some b → ¬ Pv b) ∧ Keep RB W0 W ∧ ls.length ≤ 32
theorem PsI_abide (Bo : Nat) (RB : Nat → Prop) (W0 : World) (hBo : Bo < W0.heap.size) (hRB : ∀ b, RB b → b < W0.heap.size) : Abide (PsI Bo RB W0) := by
  rintro pre Pv Pv' A B ⟨v, ls, h1, h2, hc, h3, h5, h6, h7⟩ hk hp
  have hs := h6.size
  refine ⟨v, ls, hk.boxed h1 (fun h => by have := h3 _ h; omega), hk.row h2 h5, hc, fun b hb => ?_, fun b hb hp' => ?_, h6.trans (hk.mono fun b _ hb hpb => by have := h3 b hpb; have := hRB b hb; omega), h7⟩
  · rcases (hp b hb).1 with h | h
    · exact h3 b h
    · omega
  · rcases (hp _ hp').1 with h | h
    · exact h5 b hb h
    · have := (h2.lt b hb).2; omega
def PsX (w : World) (xs : List (List UInt8)) (W0 : World) (c : Code) (_ : List (List UInt8)) (Pv : Nat → Prop) (W : World) : Prop :=
  c = .ret ∧ ∃ n : Int, Boxed W w.heap.size 36 (.slice none 0 0) ∧ Boxed W (w.heap.size + 1) 43 (.int .i64 n) ∧ goS [] xs = .inl n ∧ Below w.heap.size w W ∧ (∀ b, Pv b → W0.heap.size ≤ b)
theorem PsX_abide (w : World) (xs : List (List UInt8)) (W0 : World) (h0 : w.heap.size + 2 ≤ W0.heap.size) (c : Code) : Abide (fun pre Pv W => PsX w xs W0 c pre Pv W ∧ W0.heap.size ≤ W.heap.size) := by
  rintro pre Pv Pv' A B ⟨⟨hc, n, h1, h2, h3, h4, h5⟩, h6⟩ hk hp
  have hs := hk.size
  refine ⟨⟨hc, n, hk.boxed h1 (fun h => by have := h5 _ h; omega), hk.boxed h2 (fun h => by have := h5 _ h; omega), h3, h4.trans ((hk.mono fun b _ hb hpb => by have := h5 b hpb; omega).below h4.size), fun b hb => ?_⟩, by omega⟩
  rcases (hp b hb).1 with h | h
  · exact h5 b h
  · omega
theorem go_no (x : List UInt8) (ls rest : List (List UInt8)) (h : srcL x = none) : goS ls (x :: rest) = .inl 2 := by
  conv => lhs; unfold goS
  rw [h]
theorem go_long (x c : List UInt8) (ls rest : List (List UInt8)) (h : srcL x = some c) (hl : ls.length = 32) : goS ls (x :: rest) = .inl 3 := by
  conv => lhs; unfold goS
  rw [h]
  simp only
  rw [if_pos (by omega)]
theorem go_yes (x c : List UInt8) (ls rest : List (List UInt8)) (h : srcL x = some c) (hl : ls.length < 32) : goS ls (x :: rest) = goS (ls ++ [c]) rest := by
  conv => lhs; unfold goS
  rw [h]
  simp only
  rw [if_neg (by omega)]
theorem parseS_none (t : List UInt8) (h : trimB t = noneS) : parseS t = .inr [] := by unfold parseS; rw [if_pos h]
theorem parseS_go (t : List UInt8) (h : trimB t ≠ noneS) : parseS t = goS [] (fieldsL t) := by unfold parseS; rw [if_neg h]
set_option maxRecDepth 100000 in
set_option maxHeartbeats 16000000 in
theorem ParseSources_any (q : Option Addr) (n c : Nat) (t : List UInt8) (w : World) (hby : By w (.slice q n c) t) (hn : n ≤ 200000) (hP : ∀ p ∈ fieldsL t, PieceOk p) (hG : Gl w) :
    Calls Tryz.prog 19 #[.slice q n c] w (SrcsOut (parseS t) w) := by
  obtain ⟨i0, hi0, hz0, hz1, hz2⟩ := info_parts info_src
  have hl := hby.at.1
  obtain ⟨W1, hW1⟩ : ∃ W1, (w.alloc (.cells #[.slice none 0 0] 36)).alloc (.cells #[.int .i64 0] 43) = W1 := ⟨_, rfl⟩
  have A1 : Below w.heap.size w W1 := hW1 ▸ ((Below.refl _ w).alloc (Nat.le_refl _) _).alloc (by simp) _
  have bR : Boxed W1 w.heap.size 36 (.slice none 0 0) := hW1 ▸ (Boxed.new w _ _).alloc _
  have bE : Boxed W1 (w.heap.size + 1) 43 (.int .i64 0) := by
    have := Boxed.new (w.alloc (.cells #[.slice none 0 0] 36)) 43 (.int .i64 0)
    rw [World.size_alloc] at this
    exact hW1 ▸ this
  have hs1 : W1.heap.size = w.heap.size + 2 := by rw [← hW1]; simp
  have HW1 := Lib.hid hW1
  clear hW1
  refine (callsIn_wide (n := 1)).1 ?_
  refine callsIn_of_wp_marks Tryz.func19 rfl trivial ?_ rfl
  simp only [Tryz.ntmps19, List.size_toArray, List.length_cons, List.length_nil, Nat.reduceAdd, Nat.reduceSub, Array.replicate_succ, Array.replicate_zero, List.push_toArray, List.append_toArray, List.nil_append, List.cons_append]
  have hb1 := hby.on A1
  have con := Trim_by q n c t W1 hb1 (by omega)
  have HG := Lib.hid hG
  have HL := Lib.hid hl
  have HPC := Lib.hid hP
  have HP1 := Lib.hid (fun h2 => parseS_none t h2)
  have HP2 := Lib.hid (fun h2 => parseS_go t h2)
  have HFX := Lib.hid (show ∀ x ∈ fieldsL t, x.length ≤ 4096 from fun x hx => (hP x hx).1)
  clear hby hG hP
  obtain ⟨T, hT⟩ : ∃ T, Cls.trimB t = T := ⟨_, rfl⟩
  rw [hT] at con HP1 HP2
  clear hT
  gi_wp2_with fail
  rw [HW1.out]
  gi_wp2_with fail
  refine ⟨trivial, (callsIn_wide.2 con).mono ?_⟩
  rintro e W2 ⟨q2, c2, rfl, hb2, hbel⟩
  have hcv := conv_by hb2
  have hb0 := hb1.on hbel
  replace bR := (Keep.of_below hbel).boxed bR bR.lt
  replace bE := (Keep.of_below hbel).boxed bE bE.lt
  have A2 := A1.trans (hbel.mono A1.size)
  have hs2 := hbel.size
  have e1 : (T == [110, 111, 110, 101]) = decide (T = noneS) := by
    rw [Bool.eq_iff_iff, beq_iff_eq, decide_eq_true_iff]; rfl
  generalize hlT : T.length = m at *
  clear con hb1 hb2 hbel hlT HW1
  by_cases hnv : T = noneS
  · have HR := Lib.hid (HP1.out hnv)
    rw [decide_eq_true hnv] at e1
    clear hnv HP1 HP2 hb0 HPC HFX
    have kf := bR.frozen
    have kc := bR.cell
    have b3 := (bR.set (.slice none 0 0))
    have e3 := (Keep.setCell (S := fun b => b = w.heap.size + 1) W2 ⟨w.heap.size, 0, none⟩ (.slice none 0 0) (by simp)).boxed bE rfl
    have ef3 := e3.frozen
    have ec3 := e3.cell
    have b4 := (Keep.setCell (S := fun b => b = w.heap.size) (W2.setCell ⟨w.heap.size, 0, none⟩ (.slice none 0 0)) ⟨w.heap.size + 1, 0, none⟩ (.int .i64 0) (by simp)).boxed b3 rfl
    have e4 := (e3.set (.int .i64 0)).cell
    gi_wp2
    refine ⟨_, ret_srcs22 rfl _ _ w.heap.size (w.heap.size + 1) _ _ rfl rfl b4 e4, ?_⟩
    rw [HR.out]
    exact ⟨none, 0, 0, rfl, ⟨none, 0, 0, rfl, fun _ => rfl, Nat.le_refl _, SrcIn.nil _ _⟩, (A2.setCell (by simp) _).setCell (by simp) _⟩
  have HN := Lib.hid (HP2.out hnv)
  rw [decide_eq_false hnv] at e1
  clear hnv HP1 HP2
  obtain ⟨h1, h2, h3, h4, h5⟩ := hb0.at
  obtain ⟨W3, hW3⟩ : ∃ W3, W2.alloc (.cells #[.slice none 0 0] 34) = W3 := ⟨_, rfl⟩
  have b0 : Boxed W3 W2.heap.size 34 (.slice none 0 0) := hW3 ▸ Boxed.new W2 _ _
  have hB3 : Below W2.heap.size W2 W3 := hW3 ▸ below_alloc _
  have hs3 : W3.heap.size = W2.heap.size + 1 := by rw [← hW3]; simp
  have con := Fields_any q n c t W3 h1 (by omega) (bytes_keep h5 (Keep.of_below hB3) (fun a h1 h2 => bytes_lt h5 a h1 h2))
  have HW3 := Lib.hid hW3
  clear hW3 h1 h2 h3 h4 h5 hb0
  gi_wp2_with fail
  rw [HW3.out]
  refine ⟨trivial, (callsIn_wide.2 con).mono ?_⟩
  rintro e W4 ⟨B, v', rfl, hB, hrow, hBl, hbel⟩
  have hit := Fields_iter (by omega) hl hB hrow
  obtain ⟨RB, hRB⟩ : ∃ RB : Nat → Prop, RB = fun b => b = B ∨ v'.ownBlock = some b := ⟨_, rfl⟩
  have hRl : ∀ b, RB b → W2.heap.size + 1 ≤ b ∧ b < W4.heap.size := fun b hb => by
    rw [hRB] at hb
    rcases hb with rfl | hb
    · exact ⟨by omega, hB.lt⟩
    · have := hrow.lt b hb; exact ⟨by omega, this.2⟩
  rw [← hRB] at hit
  have hB4 : Below W2.heap.size W2 W4 := hB3.trans (hbel.mono (by omega))
  replace b0 := (Keep.of_below hbel).boxed b0 (by omega)
  replace bR := (Keep.of_below hB4).boxed bR bR.lt
  replace bE := (Keep.of_below hB4).boxed bE bE.lt
  have A4 := A2.trans (hB4.mono A2.size)
  have hs4 := hbel.size
  have hsA := A2.size
  have hs12 : w.heap.size + 2 ≤ W2.heap.size := by omega
  clear con hB hrow hBl hbel HW3 hRB hB3 hB4 hl HL
  generalize parseS t = R at *
  generalize fieldsL t = xs at *
  gi_wp2
  refine rf_law (gf := 65) (lb := #[.pointer (some ⟨B, 0, none⟩)]) rfl (enters_of Tryz.func65 (by kernel_rfl) rfl)
    hit (Keep.refl _ _) (fun b hb => (hRl b hb).2) (fun x args G W h => by obtain ⟨v, rfl, _⟩ := h; rfl)
    (PsI W2.heap.size (fun b => b < W2.heap.size) W4) (fun cc pre Pv W => PsX w xs W4 cc pre Pv W ∧ W4.heap.size ≤ W.heap.size) (PsI_abide _ _ _ (by omega) (fun b hb => by omega)) (PsX_abide w xs W4 (by omega))
    ⟨_, [], b0, World.ownsRow_nil _ _ _ _, fun r => rfl, (fun _ h => h.elim), (fun _ h => by cases h), Keep.refl _ _, by simp⟩ ?round ?done ?stop
  case round =>
    rintro ll pre x rest Pv G args Wr hll hxs ⟨v, ls, hbx, hrow, hcl, hge, hnv, hKW, hl32⟩ hPl hGl hPb hGP ⟨p, rfl, hp, rfl⟩
    have hpx := HPC.out x (by rw [hxs]; simp)
    have hxl := HFX.out x (by rw [hxs]; simp)
    obtain ⟨qx, cx, rfl, _, hnc, hcm, hbs, hblk⟩ := row_open hp
    have hbyx : By Wr (.slice qx x.length cx) x := By.row hp
    have hxm := Lib.hid hxs
    have HPX := Lib.hid hpx
    clear hxs hpx
    gi_wp2
    refine ⟨Keep.refl _ _, fun W5 hk5 hs5 r hr => ?_⟩
    have hnP : ∀ b, b < W4.heap.size → ¬ Pv b := fun b hb h => by have := hge b h; omega
    have hk5' : Keep (fun b => ¬ Pv b) Wr W5 := hk5.mono fun b _ hb h => hb (h ▸ hPl)
    replace hbx := hk5'.boxed hbx (hnP _ (by omega))
    replace hrow := hk5'.row hrow hnv
    have hK5 : Keep (fun b => b < W2.heap.size) W4 W5 := hKW.trans (hk5'.mono fun b _ hb => hnP b (by omega))
    have hPl5 : ∀ b, Pv b → b < W5.heap.size := fun b hb => by rw [hs5]; exact hPb b hb
    have gx : Keep (fun b => (Value.slice qx x.length cx).ownBlock = some b) Wr W5 := hk5.mono fun b _ hb h => hGl (h ▸ hb)
    have hbs5 : Lib.BytesIn W5 qx x.length (Lib.numsL x) := bytes_keep hbs gx (fun a ha _ => (hblk a ha).2.2)
    have hby5 : By W5 (.slice qx x.length cx) x := by
      obtain ⟨g1, g2, g3, g4, _⟩ := hbyx.at
      exact By.of g1 g2 g3 (fun h => (g4 h).2) hbs5
    have hszW := hK5.size
    have A5 : Below w.heap.size w W5 := A4.trans ((hK5.mono fun b _ h => by omega).below (by omega))
    have con := parseSource_any qx x.length cx x W5 hby5 HPX.out (HG.out.on A5)
    clear hr hk5 hk5' hs5 hKW hbs hp hbyx hblk gx hbs5 hby5 HPX
    have bR5 := hK5.boxed bR (by omega)
    have bE5 := hK5.boxed bE (by omega)
    unfold PsOut at con
    have HXS := Lib.hid (show ∀ n : Int, goS ls (x :: rest) = .inl n → goS [] xs = .inl n from fun n h => by rw [hxm.out, hcl.out]; exact h)
    have HXY := Lib.hid (show ∀ cc, srcL x = some cc → ls.length < 32 → ∀ r, goS [] ((pre ++ [x]) ++ r) = goS (ls ++ [cc]) r from fun cc h1 h2 r => by
      rw [List.append_assoc, hcl.out]
      exact go_yes x cc ls r h1 h2)
    have HNO := Lib.hid (fun h => go_no x ls rest h)
    have HLO := Lib.hid (fun cc h h2 => go_long x cc ls rest h h2)
    cases hsr : srcL x with
    | none =>
      rw [hsr] at con
      have HE := Lib.hid (HXS.out 2 (HNO.out hsr))
      clear hsr hrow hbx hit hcl HXS HXY HNO HLO
      gi_wp2_with fail
      refine ⟨trivial, rfl, (CallsIn.inRound ll (callsIn_wide.2 con)).mono ?_⟩
      rintro e w6 ⟨ku, su, gu, pu, mu, du, rfl, -, hb6⟩
      have kb := Keep.of_below hb6
      have bR6 := (kb.boxed bR5 bR5.lt).alloc (.cells #[.int .i64 ku, .string ⟨su.toArray⟩, .string ⟨gu.toArray⟩, .int .i64 pu, .int .i64 mu, .string ⟨du.toArray⟩] 82)
      have bE6 := (kb.boxed bE5 bE5.lt).alloc (.cells #[.int .i64 ku, .string ⟨su.toArray⟩, .string ⟨gu.toArray⟩, .int .i64 pu, .int .i64 mu, .string ⟨du.toArray⟩] 82)
      have ka : ∀ S : Nat → Prop, Keep S w6 (w6.alloc (.cells #[.int .i64 ku, .string ⟨su.toArray⟩, .string ⟨gu.toArray⟩, .int .i64 pu, .int .i64 mu, .string ⟨du.toArray⟩] 82)) := fun S => Keep.alloc S _ _
      have hb7 : Below w6.heap.size w6 (w6.alloc (.cells #[.int .i64 ku, .string ⟨su.toArray⟩, .string ⟨gu.toArray⟩, .int .i64 pu, .int .i64 mu, .string ⟨du.toArray⟩] 82)) := below_alloc _
      have kf := bR6.frozen
      have kc := bR6.cell
      have b3 := bR6.set (.slice none 0 0)
      have e3 := (Keep.setCell (S := fun b => b = w.heap.size + 1) (w6.alloc (.cells #[.int .i64 ku, .string ⟨su.toArray⟩, .string ⟨gu.toArray⟩, .int .i64 pu, .int .i64 mu, .string ⟨du.toArray⟩] 82)) ⟨w.heap.size, 0, none⟩ (.slice none 0 0) (by simp)).boxed bE6 rfl
      have ef3 := e3.frozen
      have ec3 := e3.cell
      have b4 := (Keep.setCell (S := fun b => b = w.heap.size) ((w6.alloc (.cells #[.int .i64 ku, .string ⟨su.toArray⟩, .string ⟨gu.toArray⟩, .int .i64 pu, .int .i64 mu, .string ⟨du.toArray⟩] 82)).setCell ⟨w.heap.size, 0, none⟩ (.slice none 0 0)) ⟨w.heap.size + 1, 0, none⟩ (.int .i64 2) (by simp)).boxed b3 rfl
      have e4 := e3.set (.int .i64 2)
      clear con
      gi_wp2
      have kq : ∀ (S : Nat → Prop), (∀ b, S b → b < W5.heap.size) → ¬ S w.heap.size → ¬ S (w.heap.size + 1) → Keep S W5 (((w6.alloc (.cells #[.int .i64 ku, .string ⟨su.toArray⟩, .string ⟨gu.toArray⟩, .int .i64 pu, .int .i64 mu, .string ⟨du.toArray⟩] 82)).setCell ⟨w.heap.size, 0, none⟩ (.slice none 0 0)).setCell ⟨w.heap.size + 1, 0, none⟩ (.int .i64 2)) := fun S h0 h1 h2 =>
        (((kb.mono fun b _ hb => h0 b hb).trans (ka S)).trans (Keep.setCell _ _ _ h1)).trans (Keep.setCell _ _ _ h2)
      have hA6 := (((A5.trans (hb6.mono A5.size)).trans (hb7.mono (A5.trans (hb6.mono A5.size)).size)).setCell (p := ⟨w.heap.size, 0, none⟩) (by simp) (.slice none 0 0)).setCell (p := ⟨w.heap.size + 1, 0, none⟩) (by simp) (.int .i64 2)
      have hz6 : W4.heap.size ≤ (((w6.alloc (.cells #[.int .i64 ku, .string ⟨su.toArray⟩, .string ⟨gu.toArray⟩, .int .i64 pu, .int .i64 mu, .string ⟨du.toArray⟩] 82)).setCell ⟨w.heap.size, 0, none⟩ (.slice none 0 0)).setCell ⟨w.heap.size + 1, 0, none⟩ (.int .i64 2)).heap.size := Nat.le_trans hszW (kq (fun _ => False) (fun _ h => h.elim) id id).size
      refine ⟨kq _ (fun b hb => ?_) (fun h => ?_) (fun h => ?_), ⟨rfl, 2, b4, e4, HE.out, hA6, fun b hb => hge b hb.1⟩, hz6⟩
      · rcases hb with h | h
        · have := (hRl b h).2; omega
        · exact hPl5 b h.1
      · rcases h with h | h
        · have := (hRl _ h).1; omega
        · have := hge _ h.1; omega
      · rcases h with h | h
        · have := (hRl _ h).1; omega
        · have := hge _ h.1; omega
    | some cc =>
      rw [hsr] at con
      obtain ⟨ql, cl, rfl⟩ := row_form hrow
      by_cases h32 : ls.length = 32
      · have HE := Lib.hid (HXS.out 3 (HLO.out cc hsr h32))
        have e32 : ((ls.length : Int) == 32) = true := by rw [beq_iff_eq]; omega
        have hcB := hbx
        clear hsr hrow hit hcl HXS HXY HNO HLO h32
        gi_wp2_with fail
        refine ⟨trivial, rfl, (CallsIn.inRound ll (callsIn_wide.2 con)).mono ?_⟩
        rintro e w6 ⟨ku, su, gu, pu, mu, du, rfl, -, hb6⟩
        have kb := Keep.of_below hb6
        have bR6 := (kb.boxed bR5 bR5.lt).alloc (.cells #[.int .i64 ku, .string ⟨su.toArray⟩, .string ⟨gu.toArray⟩, .int .i64 pu, .int .i64 mu, .string ⟨du.toArray⟩] 82)
        have bE6 := (kb.boxed bE5 bE5.lt).alloc (.cells #[.int .i64 ku, .string ⟨su.toArray⟩, .string ⟨gu.toArray⟩, .int .i64 pu, .int .i64 mu, .string ⟨du.toArray⟩] 82)
        have bL6 := (kb.boxed hcB hcB.lt).alloc (.cells #[.int .i64 ku, .string ⟨su.toArray⟩, .string ⟨gu.toArray⟩, .int .i64 pu, .int .i64 mu, .string ⟨du.toArray⟩] 82)
        have ka : ∀ S : Nat → Prop, Keep S w6 (w6.alloc (.cells #[.int .i64 ku, .string ⟨su.toArray⟩, .string ⟨gu.toArray⟩, .int .i64 pu, .int .i64 mu, .string ⟨du.toArray⟩] 82)) := fun S => Keep.alloc S _ _
        have hb7 : Below w6.heap.size w6 (w6.alloc (.cells #[.int .i64 ku, .string ⟨su.toArray⟩, .string ⟨gu.toArray⟩, .int .i64 pu, .int .i64 mu, .string ⟨du.toArray⟩] 82)) := below_alloc _
        have lc := bL6.cell
        have kf := bR6.frozen
        have kc := bR6.cell
        have b3 := bR6.set (.slice none 0 0)
        have e3 := (Keep.setCell (S := fun b => b = w.heap.size + 1) (w6.alloc (.cells #[.int .i64 ku, .string ⟨su.toArray⟩, .string ⟨gu.toArray⟩, .int .i64 pu, .int .i64 mu, .string ⟨du.toArray⟩] 82)) ⟨w.heap.size, 0, none⟩ (.slice none 0 0) (by simp)).boxed bE6 rfl
        have ef3 := e3.frozen
        have ec3 := e3.cell
        have b4 := (Keep.setCell (S := fun b => b = w.heap.size) ((w6.alloc (.cells #[.int .i64 ku, .string ⟨su.toArray⟩, .string ⟨gu.toArray⟩, .int .i64 pu, .int .i64 mu, .string ⟨du.toArray⟩] 82)).setCell ⟨w.heap.size, 0, none⟩ (.slice none 0 0)) ⟨w.heap.size + 1, 0, none⟩ (.int .i64 3) (by simp)).boxed b3 rfl
        have e4 := e3.set (.int .i64 3)
        clear con hcB hbx bL6
        gi_wp2
        have kq : ∀ (S : Nat → Prop), (∀ b, S b → b < W5.heap.size) → ¬ S w.heap.size → ¬ S (w.heap.size + 1) → Keep S W5 (((w6.alloc (.cells #[.int .i64 ku, .string ⟨su.toArray⟩, .string ⟨gu.toArray⟩, .int .i64 pu, .int .i64 mu, .string ⟨du.toArray⟩] 82)).setCell ⟨w.heap.size, 0, none⟩ (.slice none 0 0)).setCell ⟨w.heap.size + 1, 0, none⟩ (.int .i64 3)) := fun S h0 h1 h2 =>
          (((kb.mono fun b _ hb => h0 b hb).trans (ka S)).trans (Keep.setCell _ _ _ h1)).trans (Keep.setCell _ _ _ h2)
        have hA6 := (((A5.trans (hb6.mono A5.size)).trans (hb7.mono (A5.trans (hb6.mono A5.size)).size)).setCell (p := ⟨w.heap.size, 0, none⟩) (by simp) (.slice none 0 0)).setCell (p := ⟨w.heap.size + 1, 0, none⟩) (by simp) (.int .i64 3)
        have hz6 : W4.heap.size ≤ (((w6.alloc (.cells #[.int .i64 ku, .string ⟨su.toArray⟩, .string ⟨gu.toArray⟩, .int .i64 pu, .int .i64 mu, .string ⟨du.toArray⟩] 82)).setCell ⟨w.heap.size, 0, none⟩ (.slice none 0 0)).setCell ⟨w.heap.size + 1, 0, none⟩ (.int .i64 3)).heap.size := Nat.le_trans hszW (kq (fun _ => False) (fun _ h => h.elim) id id).size
        refine ⟨kq _ (fun b hb => ?_) (fun h => ?_) (fun h => ?_), ⟨rfl, 3, b4, e4, HE.out, hA6, fun b hb => hge b hb.1⟩, hz6⟩
        · rcases hb with h | h
          · have := (hRl b h).2; omega
          · exact hPl5 b h.1
        · rcases h with h | h
          · have := (hRl _ h).1; omega
          · have := hge _ h.1; omega
        · rcases h with h | h
          · have := (hRl _ h).1; omega
          · have := hge _ h.1; omega
      · have HE := Lib.hid (HXY.out cc hsr (by omega))
        have e32 : ((ls.length : Int) == 32) = false := by rw [beq_eq_false_iff_ne]; omega
        have hl31 : ls.length ≤ 31 := by omega
        clear hsr hit hcl HXS HXY HNO HLO h32 hl32
        gi_wp2_with fail
        refine ⟨trivial, rfl, (CallsIn.inRound ll (callsIn_wide.2 con)).mono ?_⟩
        rintro e w6 ⟨ku, su, gu, pu, mu, du, rfl, hcells, hb6⟩
        have HCC := Lib.hid (hcells cc rfl)
        have kb := Keep.of_below hb6
        have hsz6 := hb6.size
        have ka : ∀ S : Nat → Prop, Keep S w6 (w6.alloc (.cells #[.int .i64 ku, .string ⟨su.toArray⟩, .string ⟨gu.toArray⟩, .int .i64 pu, .int .i64 mu, .string ⟨du.toArray⟩] 82)) := fun S => Keep.alloc S _ _
        have hs7 : (w6.alloc (.cells #[.int .i64 ku, .string ⟨su.toArray⟩, .string ⟨gu.toArray⟩, .int .i64 pu, .int .i64 mu, .string ⟨du.toArray⟩] 82)).heap.size = w6.heap.size + 1 := by simp
        have hbx7 : Boxed (w6.alloc (.cells #[.int .i64 ku, .string ⟨su.toArray⟩, .string ⟨gu.toArray⟩, .int .i64 pu, .int .i64 mu, .string ⟨du.toArray⟩] 82)) W2.heap.size 34 (.slice ql ls.length cl) := (kb.boxed hbx hbx.lt).alloc _
        have hrow7 : (w6.alloc (.cells #[.int .i64 ku, .string ⟨su.toArray⟩, .string ⟨gu.toArray⟩, .int .i64 pu, .int .i64 mu, .string ⟨du.toArray⟩] 82)).ownsRow W4.heap.size 82 6 (.slice ql ls.length cl) ls.length (srcsV ls) := (kb.row hrow (fun b hb => (hrow.lt b hb).2)).alloc _
        have s7 : SB w6.heap.size #[.int .i64 ku, .string ⟨su.toArray⟩, .string ⟨gu.toArray⟩, .int .i64 pu, .int .i64 mu, .string ⟨du.toArray⟩] (w6.alloc (.cells #[.int .i64 ku, .string ⟨su.toArray⟩, .string ⟨gu.toArray⟩, .int .i64 pu, .int .i64 mu, .string ⟨du.toArray⟩] 82)) := SB.new w6 _
        have cB := hbx7.cell
        have y0 := s7.box 0 _ rfl
        have y1 := s7.box 1 _ rfl
        have y2 := s7.box 2 _ rfl
        have y3 := s7.box 3 _ rfl
        have y4 := s7.box 4 _ rfl
        have y5 := s7.box 5 _ rfl
        have hs47 : W4.heap.size ≤ (w6.alloc (.cells #[.int .i64 ku, .string ⟨su.toArray⟩, .string ⟨gu.toArray⟩, .int .i64 pu, .int .i64 mu, .string ⟨du.toArray⟩] 82)).heap.size := by omega
        clear con hcells s7
        gi_wp2_with (gi_at_builtin; go_must (refine wpListIn_append_own_at _ rfl _ _ 34 rfl W4.heap.size 82 i0 (.agg #[.int .i64 0, .string ⟨#[]⟩, .string ⟨#[]⟩, .int .i64 0, .int .i64 0, .string ⟨#[]⟩]) 6 72 Tryz.underlying34 hi0 hz0 hz1 hz2 rfl (by decide) _ _ _ rfl (hrow7.alloc _) ⟨w6.heap.size + 1, 0, none⟩ 1 1 [.int .i64 ku, .string ⟨su.toArray⟩, .string ⟨gu.toArray⟩, .int .i64 pu, .int .i64 mu, .string ⟨du.toArray⟩] rfl rfl (by rw [← hs7]; exact cells_new _ _ _) (by simp [Value.oneCell']) (by unfold maxLen; omega) (by omega) (by simp; omega) ?_); intro v' w1 hown' hgrow _ hat; obtain ⟨g', cap', rfl⟩ := ownsRow_succ hown'; obtain ⟨hv1, hv2, hr2, hkk⟩ := appended_keep (S := fun b => b ≠ W2.heap.size ∧ (Value.slice ql ls.length cl).ownBlock ≠ some b) hbx7 (by decide) hrow7 (fun h => h.1 rfl) (fun b hb h => h.2 hb) hown' hgrow; have hc1 := hv1.cell; have hf1 := hv1.frozen)
        have hat' : some g' = (Value.slice ql ls.length cl).ownBlock ∨ some g' = some ((w6.alloc (.cells #[.int .i64 ku, .string ⟨su.toArray⟩, .string ⟨gu.toArray⟩, .int .i64 pu, .int .i64 mu, .string ⟨du.toArray⟩] 82)).alloc (.cells #[.int .i64 ku, .string ⟨su.toArray⟩, .string ⟨gu.toArray⟩, .int .i64 pu, .int .i64 mu, .string ⟨du.toArray⟩] 82)).heap.size := hat
        have hg : ∀ b, some g' = some b → (Value.slice ql ls.length cl).ownBlock = some b ∨ w6.heap.size + 1 ≤ b := fun b hb => by
          rcases hat' with h | h
          · exact .inl (h ▸ hb)
          · rw [hb] at h
            have := Option.some.inj h
            simp at this
            exact .inr (by omega)
        have hk6 : ∀ S : Nat → Prop, (∀ b, S b → b < w6.heap.size ∧ b ≠ W2.heap.size ∧ (Value.slice ql ls.length cl).ownBlock ≠ some b) → Keep S w6 (w1.setCell ⟨W2.heap.size, 0, none⟩ (.slice (some ⟨g', 0, none⟩) (ls.length + 1) cap')) := fun S hS => (ka S).trans (hkk.mono fun b _ h => (hS b h).2)
        have hk5 : ∀ S : Nat → Prop, (∀ b, S b → b < W5.heap.size ∧ b ≠ W2.heap.size ∧ (Value.slice ql ls.length cl).ownBlock ≠ some b) → Keep S W5 (w1.setCell ⟨W2.heap.size, 0, none⟩ (.slice (some ⟨g', 0, none⟩) (ls.length + 1) cap')) := fun S hS => (kb.mono fun b _ h => (hS b h).1).trans (hk6 S fun b h => ⟨by have := (hS b h).1; omega, (hS b h).2⟩)
        have hown5 : ∀ b, (Value.slice ql ls.length cl).ownBlock = some b → W4.heap.size ≤ b ∧ b < W5.heap.size := fun b hb => hrow.lt b hb
        refine ⟨hk5 _ (fun b hb => ?_), _, ls ++ [cc], hv2, ?_, HE.out, fun b hb => hge b hb.1, fun b hb hp => ?_, hK5.trans (hk5 _ (fun b hb => ?_)), by simp; omega⟩
        · rcases hb with h | h
          · have h2 := hRl b h
            exact ⟨by omega, by omega, fun e => by have := (hown5 b e).1; omega⟩
          · exact ⟨hPl5 b h.1, fun e => hnP b (by omega) h.1, fun e => hnv b e h.1⟩
        · have hsv : srcsV (ls ++ [cc]) = srcsV ls ++ [.int .i64 ku, .string ⟨su.toArray⟩, .string ⟨gu.toArray⟩, .int .i64 pu, .int .i64 mu, .string ⟨du.toArray⟩] := by
            unfold srcsV
            rw [List.flatMap_append, HCC.out]
            simp
          rw [hsv, List.length_append]
          exact hr2
        · rcases hg b hb with h | h
          · exact hnv b h hp.1
          · have := hPl5 b hp.1; omega
        · exact ⟨by omega, by omega, fun e => by have := (hown5 b e).1; omega⟩
  case done =>
    rintro D Pv Wd hD hPD hPl ⟨v, ls, hbx, hrow, hcl, hge, hnv, hKW, hl32⟩ hK
    obtain ⟨q5, c5, rfl, hq5, hc5, hs5, hblk⟩ := src_open hrow rfl
    have hA : Keep (fun b => b < W2.heap.size) W4 Wd := hKW
    have bRd := hA.boxed bR (by omega)
    have bEd := hA.boxed bE (by omega)
    have hBd : Below w.heap.size w Wd := A4.trans ((hA.mono fun b _ h => by omega).below A4.size)
    have hcl0 := hcl.out []
    rw [List.append_nil] at hcl0
    have HR := Lib.hid (show R = goS ls [] from HN.out.trans hcl0)
    have hDl := hPl D hPD
    have hDg : w.heap.size + 2 ≤ D := by have := hge D hPD; omega
    have cB := hbx.cell
    have HNV := Lib.hid hnv
    have HPD := Lib.hid hPD
    clear hrow hge hnv hKW hA hit hcl hcl0 b0
    by_cases h0 : ls.length = 0
    · obtain rfl : ls = [] := List.eq_nil_of_length_eq_zero h0
      have kf := bRd.frozen
      have kc := bRd.cell
      have b3 := bRd.set (.slice none 0 0)
      have e3 := (Keep.setCell (S := fun b => b = w.heap.size + 1) Wd ⟨w.heap.size, 0, none⟩ (.slice none 0 0) (by simp)).boxed bEd rfl
      have ef3 := e3.frozen
      have ec3 := e3.cell
      have hD7 := (Keep.setCell (S := fun b => b = D) Wd ⟨w.heap.size, 0, none⟩ (.slice none 0 0) (by simp; omega)).heap rfl hK
      have A7 := hBd.setCell (p := ⟨w.heap.size, 0, none⟩) (by simp) (.slice none 0 0)
      have b4 := (Keep.setCell (S := fun b => b = w.heap.size) (Wd.setCell ⟨w.heap.size, 0, none⟩ (.slice none 0 0)) ⟨w.heap.size + 1, 0, none⟩ (.int .i64 2) (by simp)).boxed b3 rfl
      have e4 := e3.set (.int .i64 2)
      have hD8 := (Keep.setCell (S := fun b => b = D) (Wd.setCell ⟨w.heap.size, 0, none⟩ (.slice none 0 0)) ⟨w.heap.size + 1, 0, none⟩ (.int .i64 2) (by simp; omega)).heap rfl hD7
      have A8 := A7.setCell (p := ⟨w.heap.size + 1, 0, none⟩) (by simp) (.int .i64 2)
      clear h0 hs5 hblk
      gi_wp2
      refine ⟨by simp, .inl ⟨_, _, rfl, run_takeDeferred hD8, ?_⟩⟩
      have hkP : ∀ S : Nat → Prop, ¬ S D → Keep S ((Wd.setCell ⟨w.heap.size, 0, none⟩ (.slice none 0 0)).setCell ⟨w.heap.size + 1, 0, none⟩ (.int .i64 2)) (((Wd.setCell ⟨w.heap.size, 0, none⟩ (.slice none 0 0)).setCell ⟨w.heap.size + 1, 0, none⟩ (.int .i64 2)).putObj D (.deferred none)) := fun S hS => Keep.putObj _ D (.deferred none) hS
      refine ⟨_, ret_srcs22 rfl _ _ w.heap.size (w.heap.size + 1) _ _ rfl rfl ((hkP (fun b => b = w.heap.size) (by omega)).boxed b4 rfl) ((hkP (fun b => b = w.heap.size + 1) (by omega)).boxed e4 rfl).cell, ?_⟩
      rw [HR.out]
      exact ⟨none, 0, 0, rfl, ⟨none, 0, 0, rfl, fun _ => rfl, Nat.le_refl _, SrcIn.nil _ _⟩, ((Keep.of_below A8).trans (hkP _ (by omega))).below (Nat.le_refl _)⟩
    · have e0 : ((ls.length : Int) == 0) = false := by rw [beq_eq_false_iff_ne]; omega
      have HR2 := Lib.hid (show R = .inr ls by
        rw [HR.out]
        unfold goS
        rw [if_neg (fun h => h0 (by rw [h]; rfl))])
      have kf := bRd.frozen
      have kc := bRd.cell
      have b3 := bRd.set (.slice q5 ls.length c5)
      have e3 := (Keep.setCell (S := fun b => b = w.heap.size + 1) Wd ⟨w.heap.size, 0, none⟩ (.slice q5 ls.length c5) (by simp)).boxed bEd rfl
      have ef3 := e3.frozen
      have ec3 := e3.cell
      have hD7 := (Keep.setCell (S := fun b => b = D) Wd ⟨w.heap.size, 0, none⟩ (.slice q5 ls.length c5) (by simp; omega)).heap rfl hK
      have A7 := hBd.setCell (p := ⟨w.heap.size, 0, none⟩) (by simp) (.slice q5 ls.length c5)
      have b4 := (Keep.setCell (S := fun b => b = w.heap.size) (Wd.setCell ⟨w.heap.size, 0, none⟩ (.slice q5 ls.length c5)) ⟨w.heap.size + 1, 0, none⟩ (.int .i64 0) (by simp)).boxed b3 rfl
      have e4 := e3.set (.int .i64 0)
      have hD8 := (Keep.setCell (S := fun b => b = D) (Wd.setCell ⟨w.heap.size, 0, none⟩ (.slice q5 ls.length c5)) ⟨w.heap.size + 1, 0, none⟩ (.int .i64 0) (by simp; omega)).heap rfl hD7
      have A8 := A7.setCell (p := ⟨w.heap.size + 1, 0, none⟩) (by simp) (.int .i64 0)
      have hkP : ∀ S : Nat → Prop, ¬ S D → Keep S ((Wd.setCell ⟨w.heap.size, 0, none⟩ (.slice q5 ls.length c5)).setCell ⟨w.heap.size + 1, 0, none⟩ (.int .i64 0)) (((Wd.setCell ⟨w.heap.size, 0, none⟩ (.slice q5 ls.length c5)).setCell ⟨w.heap.size + 1, 0, none⟩ (.int .i64 0)).putObj D (.deferred none)) := fun S hS => Keep.putObj _ D (.deferred none) hS
      have hs9 : SrcIn (((Wd.setCell ⟨w.heap.size, 0, none⟩ (.slice q5 ls.length c5)).setCell ⟨w.heap.size + 1, 0, none⟩ (.int .i64 0)).putObj D (.deferred none)) q5 ls.length ls :=
        hs5.keep (S := fun b => b ≠ w.heap.size ∧ b ≠ w.heap.size + 1 ∧ b ≠ D) (((Keep.setCell _ _ _ (fun h => h.1 rfl)).trans (Keep.setCell _ _ _ (fun h => h.2.1 rfl))).trans (hkP _ (fun h => h.2.2 rfl))) (fun a ha _ => by
          obtain ⟨j1, j2, j3⟩ := hblk a ha
          exact ⟨by omega, by omega, fun e => HNV.out _ j3 (e ▸ HPD.out)⟩)
      clear h0 hs5 hblk HR
      gi_wp2
      refine ⟨by simp, .inl ⟨_, _, rfl, run_takeDeferred hD8, ?_⟩⟩
      refine ⟨_, ret_srcs22 rfl _ _ w.heap.size (w.heap.size + 1) _ _ rfl rfl ((hkP (fun b => b = w.heap.size) (by omega)).boxed b4 rfl) ((hkP (fun b => b = w.heap.size + 1) (by omega)).boxed e4 rfl).cell, ?_⟩
      rw [HR2.out]
      exact ⟨q5, ls.length, c5, rfl, ⟨q5, ls.length, c5, rfl, hq5, hc5, hs9⟩, ((Keep.of_below A8).trans (hkP _ (by omega))).below (Nat.le_refl _)⟩
  case stop =>
    rintro D cc pre rest Pv Wd hD hPD hPl hxs ⟨⟨rfl, en, hR, hE, hcl, hBd, hge⟩, hsz⟩ hK
    clear hxs
    have HR := Lib.hid (show R = .inl en from HN.out.trans hcl)
    have hDg : w.heap.size + 2 ≤ D := by have := A4.size; omega
    gi_wp2
    refine ⟨by simp, .inl ⟨_, _, rfl, run_takeDeferred hK, ?_⟩⟩
    have hkP : ∀ S : Nat → Prop, ¬ S D → Keep S Wd (Wd.putObj D (.deferred none)) := fun S hS => Keep.putObj _ D (.deferred none) hS
    refine ⟨_, ret_srcs22 rfl _ _ w.heap.size (w.heap.size + 1) _ _ rfl rfl ((hkP (fun b => b = w.heap.size) (by omega)).boxed hR rfl) ((hkP (fun b => b = w.heap.size + 1) (by omega)).boxed hE rfl).cell, ?_⟩
    rw [HR.out]
    exact ⟨none, 0, 0, rfl, ⟨none, 0, 0, rfl, fun _ => rfl, Nat.le_refl _, SrcIn.nil _ _⟩, ((Keep.of_below hBd).trans (hkP _ (by omega))).below (Nat.le_refl _)⟩
end Go.Proofs.YtedglpfdibamdaaGreatDoor.Pol
namespace Go.Proofs.YtedglpfdibamdaaGreatDoor.Pol
open Go.RowKit Go.Shelf Url Org Frm Cls Lbl
set_option linter.unusedVariables false
def PolIs (w : World) (v : Value) (p : PolP) : Prop := ∃ (d0 d1 c0 c1 r0 r1 p0 k0 f0 : Value), v = .agg #[d0, d1, c0, c1, r0, r1, p0, k0, f0] ∧ LabIs w (.agg #[d0, d1]) p.data ∧ LabIs w (.agg #[c0, c1]) p.ctx ∧ LabIs w (.agg #[r0, r1]) p.clr ∧ FrmIs w (.agg #[p0]) p.prv ∧ SrcsIs w (.agg #[k0]) p.con ∧ SrcsIs w (.agg #[f0]) p.frm
def zeroP : PolP := ⟨⟨[], []⟩, ⟨[], []⟩, ⟨[], []⟩, [], [], []⟩
def pE (r : Sum Int PolP) : Int := match r with | .inl e => e | .inr _ => 0
def pV (r : Sum Int PolP) : PolP := match r with | .inl _ => zeroP | .inr p => p
def PolOut (r : Sum Int PolP) (w : World) (e : Ending) (w' : World) : Prop := ∃ v, e = .returned (.tuple #[v, .int .i64 (pE r)]) ∧ PolIs w' v (pV r) ∧ Below w.heap.size w w'
end Go.Proofs.YtedglpfdibamdaaGreatDoor.Pol
namespace Go.Proofs.YtedglpfdibamdaaGreatDoor.Prv
open Go.RowKit Go.Shelf Go.Sort Url Org Cls Frm Lbl
attribute [local go_sem] Oper.semAt_some
set_option linter.unusedVariables false
set_option maxRecDepth 100000 in
set_option maxHeartbeats 4000000 in
theorem Own_any (p : List UInt8) (w : World) (hl : p.length ≤ 1300) (hG : Gl w) :
    Calls Tryz.prog 10 #[.string ⟨p.toArray⟩] w (FrmOut (singleR p) w) := by
  obtain ⟨W1, hW1⟩ : ∃ W1, w.alloc (.cells #[.slice none 0 0] 31) = W1 := ⟨_, rfl⟩
  have A1 : Below w.heap.size w W1 := hW1 ▸ below_alloc _
  have b1 : Boxed W1 w.heap.size 31 (.slice none 0 0) := hW1 ▸ Boxed.new w _ _
  have con := Single_any p W1 hl (hG.on A1)
  have HW1 := Lib.hid hW1
  clear hW1 hG
  go_enter Tryz.func10, Tryz.ntmps10
  go_wp2_with fail
  rw [HW1.out]
  refine con.mono ?_
  rintro e w2 ⟨q, n, c, rfl, f, k, hb⟩
  have b2 := (Keep.of_below hb).boxed b1 b1.lt
  have A2 := A1.trans (hb.mono A1.size)
  have kf := b2.frozen
  have kc := b2.cell
  have hl1 := b1.lt
  have f3 := f.set (u' := .slice q n c) b2 (fun x h => by cases h) (fun a ha => by have := k a ha; omega)
  have b3 := b2.set (.slice q n c)
  have A3 := A2.setCell (p := ⟨w.heap.size, 0, none⟩) (Nat.le_refl _) (.slice q n c)
  have K := Lib.hid (show ∀ a, q = some a → w.heap.size ≤ a.block from fun a ha => Nat.le_trans A1.size (k a ha))
  clear con hb k f
  go_wp2
  refine bodyPost_ret (ret_frm2 rfl _ _ w.heap.size _ rfl b3) rfl ?_
  exact ⟨q, n, c, rfl, f3, K.out, A3⟩
set_option maxRecDepth 100000 in
set_option maxHeartbeats 4000000 in
theorem Covers_any (v1 v2 : Value) (f g : List (List (List UInt8))) (w : World) (h1 : FrmIs w v1 f) (h2 : FrmIs w v2 g) (lf : f.length ≤ 1000) (lg : g.length ≤ 1000) :
    Calls Tryz.prog 21 #[v1, v2] w fun e w' => e = .returned (.bool (impB f g)) ∧ Below w.heap.size w w' := by
  obtain ⟨q1, n1, c1, rfl⟩ := frm_form h1
  obtain ⟨q2, n2, c2, rfl⟩ := frm_form h2
  obtain ⟨W, hW⟩ : ∃ W, (w.alloc (.cells #[.slice q1 n1 c1] 31)).alloc (.cells #[.slice q2 n2 c2] 31) = W := ⟨_, rfl⟩
  have A1 : Below w.heap.size w W := hW ▸ ((Below.refl _ w).alloc (Nat.le_refl _) _).alloc (by simp) _
  have x0 : W.cell? ⟨w.heap.size, 0, none⟩ = some (.slice q1 n1 c1) := hW ▸ ((Boxed.new w _ _).alloc _).cell
  have y0 : W.cell? ⟨w.heap.size + 1, 0, none⟩ = some (.slice q2 n2 c2) := by
    have := (Boxed.new (w.alloc (.cells #[.slice q1 n1 c1] 31)) 31 (.slice q2 n2 c2)).cell
    rw [World.size_alloc] at this
    exact hW ▸ this
  have con := Frm.Implies_any _ _ f g W (h1.below A1) (h2.below A1) (by omega) (by omega)
  have HW := Lib.hid hW
  clear hW h1 h2
  go_enter Tryz.func21, Tryz.ntmps21
  go_wp2_with fail
  rw [HW.out]
  refine con.mono ?_
  rintro e w2 ⟨rfl, hb⟩
  have A2 := A1.trans (hb.mono A1.size)
  clear con hb x0 y0
  go_wp2
  go_ret
  exact ⟨rfl, A2⟩
end Go.Proofs.YtedglpfdibamdaaGreatDoor.Prv
namespace Go.Proofs.YtedglpfdibamdaaGreatDoor.Pol
open Go.RowKit Go.Shelf Url Org Frm Cls Lbl
attribute [local go_sem] Oper.semAt_some
set_option linter.unusedVariables false
def OR (B : Nat) (cs : Array Value) (X : World) : Prop := X.heap[B]? = some (.cells cs 26 (0, 0))
theorem OR.box {B : Nat} {cs : Array Value} {X : World} (h : OR B cs X) : Box B cs X := fun i x hx => by
  simp only [World.cell?, show X.heap[B]? = _ from h]; exact hx
theorem OR.frozen {B : Nat} {cs : Array Value} {X : World} (h : OR B cs X) (i : Nat) : X.frozen? ⟨B, i, none⟩ = false := by
  simp [World.frozen?, show X.heap[B]? = _ from h]
theorem OR.on {B : Nat} {cs : Array Value} {X Y : World} (h : OR B cs X) (hk : Below X.heap.size X Y) : OR B cs Y := (hk.block B (Array.getElem?_eq_some_iff.1 h).1).trans h
theorem OR.lt {B : Nat} {cs : Array Value} {X : World} (h : OR B cs X) : B < X.heap.size := (Array.getElem?_eq_some_iff.1 h).1
theorem OR.new (w : World) (cs : Array Value) : OR w.heap.size cs (w.alloc (.cells cs 26)) := World.alloc_heap_new w _
theorem OR.set {B : Nat} {cs : Array Value} {X : World} (h : OR B cs X) (i : Nat) (v : Value) : OR B (cs.setIfInBounds i v) (X.setCell ⟨B, i, none⟩ v) := by
  obtain ⟨hlt, hk⟩ := Array.getElem?_eq_some_iff.1 h
  show (X.heap.modify B _)[B]? = _
  rw [Array.getElem?_eq_getElem (by rw [Array.size_modify]; exact hlt), Array.getElem_modify_self, hk]
  rfl
theorem OR.put {B : Nat} {X : World} {a0 a1 a2 a3 : Value} (h : OR B #[a0, a1, a2, a3] X) (v0 v1 v2 v3 : Value) :
    ∃ Y, (((X.setCell ⟨B, 0, none⟩ v0).setCell ⟨B, 1, none⟩ v1).setCell ⟨B, 2, none⟩ v2).setCell ⟨B, 3, none⟩ v3 = Y ∧
      OR B #[v0, v1, v2, v3] Y ∧ (∀ S : Nat → Prop, ¬ S B → Keep S X Y) ∧ ∀ M, M ≤ B → Below M X Y := by
  have h8 := (((h.set 0 v0).set 1 v1).set 2 v2).set 3 v3
  simp only [List.setIfInBounds_toArray, List.set_cons_zero, List.set_cons_succ] at h8
  refine ⟨_, rfl, h8, fun S hS => ?_, fun M hM => ?_⟩
  · exact (Keep.setCell _ _ _ hS).trans ((Keep.setCell _ _ _ hS).trans ((Keep.setCell _ _ _ hS).trans (Keep.setCell _ _ _ hS)))
  · exact ((((Below.refl M X).setCell (p := ⟨B, 0, none⟩) hM v0).setCell (p := ⟨B, 1, none⟩) hM v1).setCell (p := ⟨B, 2, none⟩) hM v2).setCell (p := ⟨B, 3, none⟩) hM v3
theorem size_orf : (Tryz.prog.info? 26).map (·.size) = some 4 := by kernel_rfl
theorem ret_orgs {fn : Func} {p u : Tmp} (h : fn.results = #[.cell p 25, .cell u 26]) (tmps : Array Value) (w : World) (B C : Nat) (cs ds : Array Value) (hp : tmps.getD p undef = .pointer (some ⟨B, 0, none⟩)) (hu : tmps.getD u undef = .pointer (some ⟨C, 0, none⟩)) (hU : OB B cs w) (hV : OR C ds w) (hs : cs.size = 4) (hd : ds.size = 4) :
    (results fn tmps).run Tryz.prog w = .ok (.tuple #[.agg cs, .agg ds]) w := by
  rw [results_cell_cell h, hp, hu]
  simp [asAddr, Result.andThen, run_loadVar_row w B 25 _ cs (0, 0) _ hU Tryz.underlying25 rfl (by rw [size_org, hs]), run_loadVar_row w C 26 _ ds (0, 0) _ hV Tryz.underlying26 rfl (by rw [size_orf, hd])]
set_option maxRecDepth 100000 in
set_option maxHeartbeats 8000000 in
theorem lawOf_any (q : Option Addr) (n c : Nat) (t : List UInt8) (w : World) (hby : By w (.slice q n c) t) (hG : Gl w) :
    Calls Tryz.prog 7 #[.slice q n c] w fun e w' => e = .returned (.tuple #[orgQ (qOf (parseQ 1099511627776 (t.take 300))), orgQ (qOf (parseQ 1099511627776 (t.take 300)))]) ∧ Below w.heap.size w w' := by
  obtain ⟨h1, h2, h3, h4, h5⟩ := hby.at
  obtain ⟨W, hW⟩ : ∃ W, (w.alloc (.cells #[.string ⟨#[]⟩, .string ⟨#[]⟩, .int .i64 0, .int .i64 0] 25)).alloc (.cells #[.string ⟨#[]⟩, .string ⟨#[]⟩, .int .i64 0, .int .i64 0] 26) = W := ⟨_, rfl⟩
  have A1 : Below w.heap.size w W := hW ▸ ((Below.refl _ w).alloc (Nat.le_refl _) _).alloc (by simp) _
  have b0 : OB w.heap.size #[.string ⟨#[]⟩, .string ⟨#[]⟩, .int .i64 0, .int .i64 0] W := hW ▸ (OB.new w _).on (below_alloc _)
  have b1 : OR (w.heap.size + 1) #[.string ⟨#[]⟩, .string ⟨#[]⟩, .int .i64 0, .int .i64 0] W := by
    have := OR.new (w.alloc (.cells #[.string ⟨#[]⟩, .string ⟨#[]⟩, .int .i64 0, .int .i64 0] 25)) #[.string ⟨#[]⟩, .string ⟨#[]⟩, .int .i64 0, .int .i64 0]
    rw [World.size_alloc] at this
    exact hW ▸ this
  have HLT0 := Lib.hid (show w.heap.size + 2 ≤ W.heap.size by rw [← hW]; simp)
  have HW := Lib.hid hW
  have hsub := hby.sub (Nat.zero_le (min n 300)) (Nat.min_le_left n 300)
  rw [subA_zero, Nat.sub_zero, Nat.sub_zero] at hsub
  have et : sub t 0 (min n 300) = t.take 300 := by
    unfold sub
    rw [List.drop_zero, Nat.sub_zero, ← h1]
    rcases Nat.le_total t.length 300 with h | h
    · rw [Nat.min_eq_left h, List.take_of_length_le h, List.take_of_length_le (Nat.le_refl _)]
    · rw [Nat.min_eq_right h]
  rw [et] at hsub
  have con := Parse_any q (min n 300) c (t.take 300) W (hsub.on A1) (by omega) (hG.on A1) (fun u hu => by have := text_len _ u hu; rw [List.length_take] at this; omega)
  have HM := Lib.hid (show (min (n : Int) 300).toNat = min n 300 by omega)
  generalize parseQ 1099511627776 (t.take 300) = r at con ⊢
  rw [ret_q] at con
  obtain ⟨⟨⟨s, g⟩, ⟨p, m⟩⟩, hp⟩ : ∃ x, partsQ (qOf r) = x := ⟨_, rfl⟩
  have hQ : orgQ (qOf r) = .agg #[.string ⟨s.toArray⟩, .string ⟨g.toArray⟩, .int .i64 p, .int .i64 m] := by unfold orgQ orgV; rw [hp]
  rw [hQ] at con ⊢
  clear hW hsub et hG h5 hby h1 hQ hp
  go_enter Tryz.func7, Tryz.ntmps7
  go_wp2_with fail
  rw [HW.out, HM.out]
  refine con.mono ?_
  rintro e w2 ⟨rfl, hb⟩
  have A2 := A1.trans (hb.mono A1.size)
  have hba : Below w2.heap.size w2 (w2.alloc (.cells #[.string ⟨s.toArray⟩, .string ⟨g.toArray⟩, .int .i64 p, .int .i64 m] 25)) := below_alloc _
  have A3 := A2.trans (hba.mono A2.size)
  replace b0 := (b0.on hb).on hba
  replace b1 := (b1.on hb).on hba
  have bx := OB.new w2 #[.string ⟨s.toArray⟩, .string ⟨g.toArray⟩, .int .i64 p, .int .i64 m]
  have HLT : w.heap.size + 2 ≤ w2.heap.size := Nat.le_trans HLT0.out hb.size
  obtain ⟨W3, hW3⟩ : ∃ Z, (w2.alloc (.cells #[.string ⟨s.toArray⟩, .string ⟨g.toArray⟩, .int .i64 p, .int .i64 m] 25)).drew = Z := ⟨_, rfl⟩
  have hd : Below (w2.alloc (.cells #[.string ⟨s.toArray⟩, .string ⟨g.toArray⟩, .int .i64 p, .int .i64 m] 25)).heap.size (w2.alloc (.cells #[.string ⟨s.toArray⟩, .string ⟨g.toArray⟩, .int .i64 p, .int .i64 m] 25)) W3 := hW3 ▸ ⟨rfl, rfl, rfl, Nat.le_refl _, fun _ _ => rfl⟩
  have A4 := A3.trans (hd.mono A3.size)
  have c0 := b0.on hd
  have c1 := b1.on hd
  have cx := bx.on hd
  have hs2 := Lib.hid A2.size
  have hs1 := Lib.hid b1.lt
  obtain ⟨Y, hY, bY, hkY, hBY⟩ := c0.put (.string ⟨s.toArray⟩) (.string ⟨g.toArray⟩) (.int .i64 p) (.int .i64 m)
  have b1Y : OR (w.heap.size + 1) #[.string ⟨#[]⟩, .string ⟨#[]⟩, .int .i64 0, .int .i64 0] Y := ((hkY (fun b => b = w.heap.size + 1) (by simp)).block _ c1.lt rfl).trans c1
  have HNE := Lib.hid HLT
  have cxY : OB w2.heap.size #[.string ⟨s.toArray⟩, .string ⟨g.toArray⟩, .int .i64 p, .int .i64 m] Y := ((hkY (fun b => b = w2.heap.size) (by have := HNE.out; omega)).block _ cx.lt rfl).trans cx
  obtain ⟨Z, hZ, bZ, hkZ, hBZ⟩ := b1Y.put (.string ⟨s.toArray⟩) (.string ⟨g.toArray⟩) (.int .i64 p) (.int .i64 m)
  have bYZ : OB w.heap.size #[.string ⟨s.toArray⟩, .string ⟨g.toArray⟩, .int .i64 p, .int .i64 m] Z := ((hkZ (fun b => b = w.heap.size) (by simp)).block _ bY.lt rfl).trans bY
  have cxZ : OB w2.heap.size #[.string ⟨s.toArray⟩, .string ⟨g.toArray⟩, .int .i64 p, .int .i64 m] Z := ((hkZ (fun b => b = w2.heap.size) (by have := HNE.out; omega)).block _ cxY.lt rfl).trans cxY
  have A6 := (A4.trans (hBY _ (Nat.le_refl _))).trans (hBZ _ (by omega))
  have HY := Lib.hid hY
  have HZ := Lib.hid hZ
  have HW3 := Lib.hid hW3
  have C0 := Lib.hid c0
  have C1 := Lib.hid b1Y
  clear con hb A1 HW hba hd hY hZ bx b0 b1 b1Y c0 c1 bY hkY hkZ hBY hBZ A2 A3 A4 HM hW3 HLT
  go_wp2
  refine pregion_any (fun X => X.cell? ⟨w2.heap.size, 0, none⟩ = some (.string ⟨s.toArray⟩) ∧ X.cell? ⟨w2.heap.size, 1, none⟩ = some (.string ⟨g.toArray⟩) ∧ X.cell? ⟨w2.heap.size, 2, none⟩ = some (.int .i64 p) ∧ X.cell? ⟨w2.heap.size, 3, none⟩ = some (.int .i64 m)) (by kernel_rfl) ?_
  rw [HW3.out]
  refine wpAnyH_take (i := 0) (v := (.agg #[.string ⟨s.toArray⟩, .string ⟨g.toArray⟩, .int .i64 p, .int .i64 m])) rfl (by kernel_rfl) (by kernel_rfl) (by kernel_rfl) (fun _ _ _ h => h) (.inl ⟨by kernel_rfl, ?_⟩) ⟨cx.box 0 _ rfl, cx.box 1 _ rfl, cx.box 2 _ rfl, cx.box 3 _ rfl⟩ ?_
  · rintro w ⟨h1, h2, h3, h4⟩; go_simp <;> omega
  refine plist #[true, false, false, false, false, false, false, false, false, false, false, false] (by kernel_rfl) ?_
  refine wpAnyH_take (i := 1) (v := (.pointer (some ⟨w2.heap.size, 0, none⟩))) rfl (by kernel_rfl) (by kernel_rfl) (by kernel_rfl) (fun _ _ _ h => h) (.inl ⟨by kernel_rfl, ?_⟩) ⟨cx.box 0 _ rfl, cx.box 1 _ rfl, cx.box 2 _ rfl, cx.box 3 _ rfl⟩ ?_
  · rintro w ⟨h1, h2, h3, h4⟩; go_simp <;> omega
  refine plist #[true, true, false, false, false, false, false, false, false, false, false, false] (by kernel_rfl) ?_
  refine wpAnyH_take (i := 2) (v := (.string ⟨s.toArray⟩)) rfl (by kernel_rfl) (by kernel_rfl) (by kernel_rfl) (fun _ _ _ h => h) (.inl ⟨by kernel_rfl, ?_⟩) ⟨cx.box 0 _ rfl, cx.box 1 _ rfl, cx.box 2 _ rfl, cx.box 3 _ rfl⟩ ?_
  · rintro w ⟨h1, h2, h3, h4⟩; go_simp <;> omega
  refine plist #[true, true, true, false, false, false, false, false, false, false, false, false] (by kernel_rfl) ?_
  refine wpAnyH_take (i := 3) (v := (.pointer (some ⟨w2.heap.size, 1, none⟩))) rfl (by kernel_rfl) (by kernel_rfl) (by kernel_rfl) (fun _ _ _ h => h) (.inl ⟨by kernel_rfl, ?_⟩) ⟨cx.box 0 _ rfl, cx.box 1 _ rfl, cx.box 2 _ rfl, cx.box 3 _ rfl⟩ ?_
  · rintro w ⟨h1, h2, h3, h4⟩; go_simp <;> omega
  refine plist #[true, true, true, true, false, false, false, false, false, false, false, false] (by kernel_rfl) ?_
  refine wpAnyH_take (i := 4) (v := (.string ⟨g.toArray⟩)) rfl (by kernel_rfl) (by kernel_rfl) (by kernel_rfl) (fun _ _ _ h => h) (.inl ⟨by kernel_rfl, ?_⟩) ⟨cx.box 0 _ rfl, cx.box 1 _ rfl, cx.box 2 _ rfl, cx.box 3 _ rfl⟩ ?_
  · rintro w ⟨h1, h2, h3, h4⟩; go_simp <;> omega
  refine plist #[true, true, true, true, true, false, false, false, false, false, false, false] (by kernel_rfl) ?_
  refine wpAnyH_take (i := 5) (v := (.pointer (some ⟨w2.heap.size, 2, none⟩))) rfl (by kernel_rfl) (by kernel_rfl) (by kernel_rfl) (fun _ _ _ h => h) (.inl ⟨by kernel_rfl, ?_⟩) ⟨cx.box 0 _ rfl, cx.box 1 _ rfl, cx.box 2 _ rfl, cx.box 3 _ rfl⟩ ?_
  · rintro w ⟨h1, h2, h3, h4⟩; go_simp <;> omega
  refine plist #[true, true, true, true, true, true, false, false, false, false, false, false] (by kernel_rfl) ?_
  refine wpAnyH_take (i := 6) (v := (.int .i64 p)) rfl (by kernel_rfl) (by kernel_rfl) (by kernel_rfl) (fun _ _ _ h => h) (.inl ⟨by kernel_rfl, ?_⟩) ⟨cx.box 0 _ rfl, cx.box 1 _ rfl, cx.box 2 _ rfl, cx.box 3 _ rfl⟩ ?_
  · rintro w ⟨h1, h2, h3, h4⟩; go_simp <;> omega
  refine plist #[true, true, true, true, true, true, true, false, false, false, false, false] (by kernel_rfl) ?_
  refine wpAnyH_take (i := 7) (v := (.pointer (some ⟨w2.heap.size, 3, none⟩))) rfl (by kernel_rfl) (by kernel_rfl) (by kernel_rfl) (fun _ _ _ h => h) (.inl ⟨by kernel_rfl, ?_⟩) ⟨cx.box 0 _ rfl, cx.box 1 _ rfl, cx.box 2 _ rfl, cx.box 3 _ rfl⟩ ?_
  · rintro w ⟨h1, h2, h3, h4⟩; go_simp <;> omega
  refine plist #[true, true, true, true, true, true, true, true, false, false, false, false] (by kernel_rfl) ?_
  refine wpAnyH_take (i := 8) (v := (.int .i64 m)) rfl (by kernel_rfl) (by kernel_rfl) (by kernel_rfl) (fun _ _ _ h => h) (.inl ⟨by kernel_rfl, ?_⟩) ⟨cx.box 0 _ rfl, cx.box 1 _ rfl, cx.box 2 _ rfl, cx.box 3 _ rfl⟩ ?_
  · rintro w ⟨h1, h2, h3, h4⟩; go_simp <;> omega
  refine plist #[true, true, true, true, true, true, true, true, true, false, false, false] (by kernel_rfl) ?_
  refine wpAnyH_take (i := 9) (v := (.agg #[.string ⟨s.toArray⟩, .string ⟨g.toArray⟩, .int .i64 p, .int .i64 m])) rfl (by kernel_rfl) (by kernel_rfl) (by kernel_rfl) (fun _ _ _ h => h) (.inl ⟨by kernel_rfl, ?_⟩) ⟨cx.box 0 _ rfl, cx.box 1 _ rfl, cx.box 2 _ rfl, cx.box 3 _ rfl⟩ ?_
  · rintro w ⟨h1, h2, h3, h4⟩; go_simp <;> omega
  have f0 := C0.out.frozen 0
  have f1 := C0.out.frozen 1
  have f2 := C0.out.frozen 2
  have f3 := C0.out.frozen 3
  have y0 := C0.out.box 0 _ rfl
  have y1 := C0.out.box 1 _ rfl
  have y2 := C0.out.box 2 _ rfl
  have y3 := C0.out.box 3 _ rfl
  refine plist #[true, true, true, true, true, true, true, true, true, true, false, false] (by kernel_rfl) ?_
  refine pone 10 (by kernel_rfl) rfl fun K hK => ?_
  go_simp
  rw [HY.out]
  refine hK _ _ ⟨cxY.box 0 _ rfl, cxY.box 1 _ rfl, cxY.box 2 _ rfl, cxY.box 3 _ rfl⟩ ?_
  clear hK K
  clear f0 f1 f2 f3 y0 y1 y2 y3
  have f0 := C1.out.frozen 0
  have f1 := C1.out.frozen 1
  have f2 := C1.out.frozen 2
  have f3 := C1.out.frozen 3
  have y0 := C1.out.box 0 _ rfl
  have y1 := C1.out.box 1 _ rfl
  have y2 := C1.out.box 2 _ rfl
  have y3 := C1.out.box 3 _ rfl
  refine plist #[true, true, true, true, true, true, true, true, true, true, true, false] (by kernel_rfl) ?_
  refine pone 11 (by kernel_rfl) rfl fun K hK => ?_
  go_simp
  rw [HZ.out]
  refine hK _ _ ⟨cxZ.box 0 _ rfl, cxZ.box 1 _ rfl, cxZ.box 2 _ rfl, cxZ.box 3 _ rfl⟩ ?_
  clear hK K
  refine pdone (by kernel_rfl) ?_ _
  go_wp2
  exact bodyPost_ret (ret_orgs rfl _ _ w.heap.size (w.heap.size + 1) _ _ rfl rfl bYZ bZ rfl rfl) rfl ⟨rfl, A6⟩
theorem q_okQ (t : List UInt8) (ht : t.length ≤ 400) : OkQ (qOf (parseQ 1099511627776 t)) := by
  cases h : parseQ 1099511627776 t with
  | inl e => trivial
  | inr x =>
    obtain ⟨h1, h2, _⟩ := Q_round t ht x h
    exact ⟨h1, h2⟩
end Go.Proofs.YtedglpfdibamdaaGreatDoor.Pol
namespace Go.Proofs.YtedglpfdibamdaaGreatDoor.Pol
open Go.RowKit Go.Shelf Url Org Frm Cls Lbl
set_option linter.unusedVariables false
def PL (B : Nat) (cs : Array Value) (X : World) : Prop := X.heap[B]? = some (.cells cs 38 (0, 0))
theorem PL.box {B : Nat} {cs : Array Value} {X : World} (h : PL B cs X) : Box B cs X := fun i x hx => by
  simp only [World.cell?, show X.heap[B]? = _ from h]; exact hx
theorem PL.frozen {B : Nat} {cs : Array Value} {X : World} (h : PL B cs X) (i : Nat) : X.frozen? ⟨B, i, none⟩ = false := by
  simp [World.frozen?, show X.heap[B]? = _ from h]
theorem PL.on {B : Nat} {cs : Array Value} {X Y : World} (h : PL B cs X) (hk : Below X.heap.size X Y) : PL B cs Y := (hk.block B (Array.getElem?_eq_some_iff.1 h).1).trans h
theorem PL.keep {B : Nat} {cs : Array Value} {S : Nat → Prop} {X Y : World} (h : PL B cs X) (hk : Keep S X Y) (hS : S B) : PL B cs Y := (hk.block B (Array.getElem?_eq_some_iff.1 h).1 hS).trans h
theorem PL.lt {B : Nat} {cs : Array Value} {X : World} (h : PL B cs X) : B < X.heap.size := (Array.getElem?_eq_some_iff.1 h).1
theorem PL.new (w : World) (cs : Array Value) : PL w.heap.size cs (w.alloc (.cells cs 38)) := World.alloc_heap_new w _
theorem PL.set {B : Nat} {cs : Array Value} {X : World} (h : PL B cs X) (i : Nat) (v : Value) : PL B (cs.setIfInBounds i v) (X.setCell ⟨B, i, none⟩ v) := by
  obtain ⟨hlt, hk⟩ := Array.getElem?_eq_some_iff.1 h
  show (X.heap.modify B _)[B]? = _
  rw [Array.getElem?_eq_getElem (by rw [Array.size_modify]; exact hlt), Array.getElem_modify_self, hk]
  rfl
theorem size_pol : (Tryz.prog.info? 38).map (·.size) = some 9 := by kernel_rfl
abbrev T3 := Option Addr × Nat × Nat
def vT (z : T3) : Value := .slice z.1 z.2.1 z.2.2
structure N9 where
  d0 : T3
  d1 : T3
  c0 : T3
  c1 : T3
  r0 : T3
  r1 : T3
  p0 : T3
  k0 : T3
  f0 : T3
def N9.arr (z : N9) : Array Value := #[vT z.d0, vT z.d1, vT z.c0, vT z.c1, vT z.r0, vT z.r1, vT z.p0, vT z.k0, vT z.f0]
def OffT (B : Nat) (z : T3) : Prop := ∀ a, z.1 = some a → 0 < z.2.1 → a.block ≠ B
structure N9.Off (z : N9) (B : Nat) : Prop where
  d0 : OffT B z.d0
  d1 : OffT B z.d1
  c0 : OffT B z.c0
  c1 : OffT B z.c1
  r0 : OffT B z.r0
  r1 : OffT B z.r1
  p0 : OffT B z.p0
structure N9.Is (z : N9) (w : World) (p : PolP) : Prop where
  d : LabIs w (.agg #[vT z.d0, vT z.d1]) p.data
  c : LabIs w (.agg #[vT z.c0, vT z.c1]) p.ctx
  r : LabIs w (.agg #[vT z.r0, vT z.r1]) p.clr
  v : FrmIs w (.agg #[vT z.p0]) p.prv
  k : SrcsIs w (.agg #[vT z.k0]) p.con
  f : SrcsIs w (.agg #[vT z.f0]) p.frm
theorem N9.Is.pol {z : N9} {w : World} {p : PolP} (h : z.Is w p) : PolIs w (.agg z.arr) p := ⟨_, _, _, _, _, _, _, _, _, rfl, h.d, h.c, h.r, h.v, h.k, h.f⟩
theorem N9.Is.below {z : N9} {w w' : World} {p : PolP} (h : z.Is w p) (hb : Below w.heap.size w w') : z.Is w' p := ⟨h.d.below hb, h.c.below hb, h.r.below hb, h.v.below hb, h.k.below hb, h.f.below hb⟩
theorem agg_two {a b x y : Value} (h : Value.agg #[a, b] = .agg #[x, y]) : a = x ∧ b = y := by
  have := Array.mk.inj (Value.agg.inj h)
  simpa using this
def Slc (cs : Array Value) : Prop := ∀ (i : Nat) (x : Value), cs[i]? = some x → ∃ z : T3, x = vT z
theorem arr_slc (z : N9) : Slc z.arr := fun i x hx => by
  unfold N9.arr at hx
  rcases (show i = 0 ∨ i = 1 ∨ i = 2 ∨ i = 3 ∨ i = 4 ∨ i = 5 ∨ i = 6 ∨ i = 7 ∨ i = 8 ∨ 9 ≤ i by omega) with rfl | rfl | rfl | rfl | rfl | rfl | rfl | rfl | rfl | h
  all_goals first | exact ⟨_, (Option.some.inj hx).symm⟩ | (rw [Array.getElem?_eq_none (by simpa using h)] at hx; cases hx)
theorem slIn_ne_pl {w : World} {q : Option Addr} {n : Nat} {xs : List (List UInt8)} {B : Nat} {cs : Array Value} (h : SlIn encStr w q n xs) (hB : PL B cs w) (hs : Slc cs) : ∀ a, q = some a → 0 < n → a.block ≠ B := by
  rintro a rfl hn rfl
  obtain ⟨b, o, he, _, hc⟩ := h.at hn
  cases he
  cases xs with
  | nil => have := h.1; simp at this; omega
  | cons x xs =>
    have k1 := hc 0 x rfl
    have k2 : w.heap[b]? = some (.cells cs 38 (0, 0)) := hB
    simp only [World.cell?, k2] at k1
    obtain ⟨z, hz⟩ := hs _ _ k1
    cases hz
theorem frm_off {w Y : World} {z : T3} {f : List (List (List UInt8))} {B : Nat} {cs : Array Value} (h : FrmIs w (.agg #[vT z]) f) (hB : PL B cs w) (hs : Slc cs) (hq : OffT B z) (hk : Keep (fun b => b ≠ B) w Y) : FrmIs Y (.agg #[vT z]) f := by
  obtain ⟨q, n, c⟩ := z
  obtain ⟨h1, h2, zs, s, z, rfl⟩ := FrmIs.row (q := q) (n := n) (c := c) h
  exact ⟨q, n, c, rfl, h1, h2, zs, s.keep hk hq, fun x hx => (z x hx).from hk fun a ha h0 => by
    obtain ⟨_, _, _, he, _, _, hss, _⟩ := (z x hx).set
    cases he
    exact slIn_ne_pl hss hB hs a ha h0, rfl⟩
theorem lab_off {w Y : World} {z y : T3} {l : Lab} {B : Nat} {cs : Array Value} (h : LabIs w (.agg #[vT z, vT y]) l) (hB : PL B cs w) (hs : Slc cs) (hz : OffT B z) (hy : OffT B y) (hk : Keep (fun b => b ≠ B) w Y) : LabIs Y (.agg #[vT z, vT y]) l := by
  obtain ⟨q1, n1, c1, q2, n2, c2, e, h1, h2⟩ := h
  obtain ⟨e1, e2⟩ := agg_two e
  rw [← e1] at h1
  rw [← e2] at h2
  exact ⟨z.1, z.2.1, z.2.2, y.1, y.2.1, y.2.2, rfl, frm_off h1 hB hs hz hk, frm_off h2 hB hs hy hk⟩
theorem srcs_off {w Y : World} {v : Value} {l : List (List UInt8)} {B : Nat} {cs : Array Value} (h : SrcsIs w v l) (hB : PL B cs w) (hs : Slc cs) (hk : Keep (fun b => b ≠ B) w Y) : SrcsIs Y v l := by
  obtain ⟨q, n, c, rfl, h1, h2, h3⟩ := h
  refine ⟨q, n, c, rfl, h1, h2, h3.keep hk ?_⟩
  rintro a rfl hn rfl
  obtain ⟨b, o, he, _, hc⟩ := h3.2 hn
  cases he
  cases l with
  | nil => have := h3.1; simp at this; omega
  | cons x xs =>
    have k1 := hc 0 x rfl 0 _ rfl
    have k2 : w.heap[b]? = some (.cells cs 38 (0, 0)) := hB
    simp only [World.cell?, k2] at k1
    obtain ⟨z, hz⟩ := hs _ _ k1
    cases hz
def PAt (B : Nat) (p : PolP) (w : World) : Prop := ∃ z : N9, PL B z.arr w ∧ z.Is w p ∧ z.Off B
theorem PAt.new {z : N9} {p : PolP} {w : World} (h : z.Is w p) : PAt w.heap.size p (w.alloc (.cells z.arr 38)) := by
  refine ⟨z, PL.new w _, h.below (below_alloc _), ?_⟩
  have key : ∀ (y : T3) (f : List (List (List UInt8))), FrmIs w (.agg #[vT y]) f → OffT w.heap.size y := fun y f hf a ha h0 => by
    have := FrmIs.lt (q := y.1) (n := y.2.1) (c := y.2.2) hf a ha h0
    omega
  have kl : ∀ (y x : T3) (l : Lab), LabIs w (.agg #[vT y, vT x]) l → OffT w.heap.size y ∧ OffT w.heap.size x := fun y x l hl => by
    obtain ⟨q1, n1, c1, q2, n2, c2, e, h1, h2⟩ := hl
    obtain ⟨e1, e2⟩ := agg_two e
    rw [← e1] at h1
    rw [← e2] at h2
    exact ⟨key _ _ h1, key _ _ h2⟩
  exact ⟨(kl _ _ _ h.d).1, (kl _ _ _ h.d).2, (kl _ _ _ h.c).1, (kl _ _ _ h.c).2, (kl _ _ _ h.r).1, (kl _ _ _ h.r).2, key _ _ h.v⟩
end Go.Proofs.YtedglpfdibamdaaGreatDoor.Pol
