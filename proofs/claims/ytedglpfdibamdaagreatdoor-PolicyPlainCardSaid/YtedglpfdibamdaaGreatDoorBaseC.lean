/- The texts that these laws rest on, put together, part 3. Conditions: as each says. -/
import Derived.Test.YtedglpfdibamdaaGreatDoorBaseB
import Derived.Laws.ResultCell
import Derived.Laws.Rows
import Derived.Deep.DeepCutAuto
import Derived.Lib.AppendStr
import Derived.Lib.Join
namespace Go.Proofs.YtedglpfdibamdaaGreatDoor.Url
open Go.RowKit Go.Shelf
attribute [local go_sem] Oper.semAt_some
def UrlIn (w : World) (v : Value) (u : U) : Prop := ∃ q0 n0 c0 q1 n1 c1 q3 n3 c3 q4 n4 c4 q5 n5 c5,
  v = .agg #[.slice q0 n0 c0, .slice q1 n1 c1, .int .i64 u.port, .slice q3 n3 c3, .slice q4 n4 c4, .slice q5 n5 c5, .bool u.hq, .bool u.hf] ∧
  By w (.slice q0 n0 c0) u.scheme ∧ By w (.slice q1 n1 c1) u.host ∧ By w (.slice q3 n3 c3) u.path ∧ By w (.slice q4 n4 c4) u.query ∧ By w (.slice q5 n5 c5) u.frag
theorem UrlIn.on {w w' : World} {v : Value} {u : U} (h : UrlIn w v u) (hk : Below w.heap.size w w') : UrlIn w' v u := by
  obtain ⟨q0, n0, c0, q1, n1, c1, q3, n3, c3, q4, n4, c4, q5, n5, c5, hv, h0, h1, h3, h4, h5⟩ := h
  exact ⟨q0, n0, c0, q1, n1, c1, q3, n3, c3, q4, n4, c4, q5, n5, c5, hv, h0.on hk, h1.on hk, h3.on hk, h4.on hk, h5.on hk⟩
def serverT (u : U) : List UInt8 := u.scheme ++ sepS ++ u.host ++ portT u
theorem text_server (u : U) : textU u = serverT u ++ u.path ++ queryT u ++ fragT u := rfl
theorem low_scheme (u : U) (h : Ok u) : Ref.lowL u.scheme = u.scheme := by
  rcases h.scheme with hs | hs <;> (rw [hs]; decide)
theorem dig_dec10 (n : Nat) : digL n = Lib.decDigits n := by
  induction n using Nat.strongRecOn with
  | ind n ih =>
    by_cases h : n < 10
    · rw [dig_small n h, Lib.decDigits, dif_pos h]
    · rw [dig_big n h, Lib.decDigits, dif_neg h, ih (n / 10) (by omega)]
theorem itoa_dig (n : Nat) : Lib.byteCells (Lib.itoa (n : Int)) = byV (digL n) ∧ (Lib.itoa (n : Int)).length = (digL n).length := by
  rw [Lib.itoa_nonneg, dig_dec10]
  refine ⟨?_, rfl⟩
  unfold Lib.byteCells byV Lib.numsL
  rw [List.map_map]; rfl
theorem AppendInt_any (B n p : Nat) (v : Value) (xs : List Value) (w : World) (hown : w.ownsRow B 5 1 v n xs) (hp : p ≤ 65535) (hB : B ≤ w.heap.size) (hn : n ≤ 1048577) (ht : Lib.TabBelow Tryz.prog B w "internal/strconv.uint64pow10" .u64 Lib.pow10Tab) :
    Calls Tryz.prog 191 #[v, .int .i64 (p : Int), .int .i64 10] w fun e w' => ∃ v', e = .returned v' ∧ w'.ownsRow B 5 1 v' (n + (digL p).length) (xs ++ byV (digL p)) ∧ Below B w w' := by
  refine (Tryz.strconv_AppendInt_10 B n p (by omega) (by omega) v xs w hown hB (by omega) ht).mono ?_
  rintro e w' ⟨v', he, hr, hb, _⟩
  rw [(itoa_dig p).1, (itoa_dig p).2] at hr
  exact ⟨v', he, hr, hb⟩
set_option maxRecDepth 100000 in
set_option maxHeartbeats 8000000 in
theorem server_any (u : U) (v : Value) (w : World) (h : UrlIn w v u) (hok : Ok u) (hG : Gl w) (hlen : (textU u).length ≤ 1048576) :
    Calls Tryz.prog 152 #[v] w fun e w' => ∃ v', e = .returned v' ∧ w'.ownsRow w.heap.size 5 1 v' (serverT u).length (byV (serverT u)) ∧ Below w.heap.size w w' := by
  have kc := fun (w : World) (C : Array Value) (n c : Nat) => Lib.run_convert_bytes_const (P := Tryz.prog) w 22 5 C n c Tryz.underlying22 Tryz.underlying5
  obtain ⟨q0, n0, c0, q1, n1, c1, q3, n3, c3, q4, n4, c4, q5, n5, c5, rfl, h0, h1, h3, h4, h5⟩ := h
  have hp2 := hok.port2
  have HLS := Lib.hid (low_scheme u hok)
  have hsl : (u.scheme ++ sepS ++ u.host).length ≤ 1048576 := by
    have : (textU u).length = (u.scheme ++ sepS ++ u.host).length + (portT u ++ u.path ++ queryT u ++ fragT u).length := by rw [← List.length_append]; rw [text_server]; unfold serverT; simp only [List.append_assoc]
    omega
  have HPT := Lib.hid (show portT u = if u.port = ownP u.scheme then [] else 58 :: digL u.port from rfl)
  have HST := Lib.hid (show serverT u = (u.scheme ++ sepS ++ u.host) ++ portT u from rfl)
  clear hok hlen
  -- the box, "://", the three parts
  obtain ⟨W1, hW1⟩ : ∃ W1, (w.alloc (.cells #[.slice q0 n0 c0, .slice q1 n1 c1, .int .i64 u.port, .slice q3 n3 c3, .slice q4 n4 c4, .slice q5 n5 c5, .bool u.hq, .bool u.hf] 100)).alloc (.cells #[.int .u8 58, .int .u8 47, .int .u8 47] 5 (3, 4)) = W1 := ⟨_, rfl⟩
  have hs1 : W1.heap.size = w.heap.size + 2 := by rw [← hW1]; simp
  have hB0 := (Below.refl _ w).alloc (Nat.le_refl _) (.cells #[.slice q0 n0 c0, .slice q1 n1 c1, .int .i64 u.port, .slice q3 n3 c3, .slice q4 n4 c4, .slice q5 n5 c5, .bool u.hq, .bool u.hf] 100)
  have hB1 : Below w.heap.size w W1 := by rw [← hW1]; exact hB0.alloc hB0.size _
  have hbox : ∀ i x, (#[.slice q0 n0 c0, .slice q1 n1 c1, .int .i64 u.port, .slice q3 n3 c3, .slice q4 n4 c4, .slice q5 n5 c5, .bool u.hq, .bool u.hf] : Array Value)[i]? = some x → W1.cell? ⟨w.heap.size, i, none⟩ = some x := fun i x h => by
    rw [← hW1]; exact cell_on (box_cell w _ 100 i x h) ((Below.refl _ _).alloc (Nat.le_refl _) _)
  have hsep : By W1 (.slice (some ⟨w.heap.size + 1, 0, none⟩) 3 3) sepS := by
    have := by_lit (w.alloc (.cells #[.slice q0 n0 c0, .slice q1 n1 c1, .int .i64 u.port, .slice q3 n3 c3, .slice q4 n4 c4, .slice q5 n5 c5, .bool u.hq, .bool u.hf] 100)) #[.int .u8 58, .int .u8 47, .int .u8 47] sepS (3, 4) 3 rfl rfl (by decide)
    rw [World.size_alloc] at this
    rw [← hW1]; exact this
  have kc1 := kc (w.alloc (.cells #[.slice q0 n0 c0, .slice q1 n1 c1, .int .i64 u.port, .slice q3 n3 c3, .slice q4 n4 c4, .slice q5 n5 c5, .bool u.hq, .bool u.hf] 100)) #[.int .u8 58, .int .u8 47, .int .u8 47] 3 3
  rw [World.size_alloc] at kc1
  have g0 := h0.on hB1
  have g1 := h1.on hB1
  obtain ⟨W2, hW2⟩ : ∃ W2, W1.alloc (.cells #[.slice q0 n0 c0, .slice (some ⟨w.heap.size + 1, 0, none⟩) 3 3, .slice q1 n1 c1] 22) = W2 := ⟨_, rfl⟩
  have hB12 : Below W1.heap.size W1 W2 := by rw [← hW2]; exact (Below.refl _ _).alloc (Nat.le_refl _) _
  have hB2 := hB1.trans (hB12.mono hB1.size)
  have hs2 : W2.heap.size = w.heap.size + 3 := by rw [← hW2, World.size_alloc, hs1]
  have hcl : ∀ i x, (#[.slice q0 n0 c0, .slice (some ⟨w.heap.size + 1, 0, none⟩) 3 3, .slice q1 n1 c1] : Array Value)[i]? = some x → W2.cell? ⟨w.heap.size + 1 + 1, i, none⟩ = some x := fun i x h => by
    have := box_cell W1 _ 22 i x h
    rw [hs1] at this
    rw [← hW2]; exact this
  have con := Concat_any (w.heap.size + 1 + 1) 3 3 [u.scheme, sepS, u.host] W2 rfl (by omega) (fun i hi => by
    match i, hi with
    | 0, _ => exact ⟨_, _, _, hcl 0 _ rfl, g0.on hB12⟩
    | 1, _ => exact ⟨_, _, _, hcl 1 _ rfl, hsep.on hB12⟩
    | 2, _ => exact ⟨_, _, _, hcl 2 _ rfl, g1.on hB12⟩) (by simp only [List.flatten_cons, List.flatten_nil, List.append_nil, ← List.append_assoc]; omega) (by simp [sepS]; omega)
  simp only [List.flatten_cons, List.flatten_nil, List.append_nil, ← List.append_assoc] at con
  have HW1 := Lib.hid hW1
  have HW2 := Lib.hid hW2
  clear hW1 hW2 hB0 hcl hsep h0 h1 h3 h4 h5 g1
  go_enter Tryz.func152, Tryz.ntmps152
  go_wp2_with fail
  rw [HW1.out, HW2.out]
  refine con.mono ?_
  rintro e W3 ⟨v3, rfl, hrow, hb3⟩
  have hB3 := hB2.trans (hb3.mono hB2.size)
  have hB13 := hB12.trans (hb3.mono hB12.size)
  have hrow' := row_base hrow (show w.heap.size + 1 ≤ W2.heap.size by omega)
  have hb := fun i x h => cell_on (hbox i x h) hB13
  have g0' := g0.on hB13
  have conO := fun X (hX : Below W3.heap.size W3 X) => Own_any q0 n0 c0 u.scheme X g0'.at.1 (by have := hsl; rw [List.length_append, List.length_append, g0'.at.1] at this; omega) (g0'.on hX).at.2.2.2.2
  rw [HLS.out] at conO
  clear con kc1 hrow hbox g0 hb3 hB12 hB13 hB2 hB1 HW1 HW2
  obtain ⟨n, hn⟩ : ∃ n, (u.scheme ++ sepS ++ u.host).length = n := ⟨_, rfl⟩
  rw [hn] at hrow' hsl
  obtain ⟨qr, cr, rfl, _, _, _, _, _⟩ := row_open hrow'
  have HLN := Lib.hid hn
  have c0' := hb 0 _ rfl
  have c2' := hb 2 _ rfl
  clear hn hb hs1 hs2
  generalize ownP u.scheme = own at *
  go_wp2_with fail
  refine pregion_any (fun X => X.cell? ⟨w.heap.size, 0, none⟩ = some (.slice q0 n0 c0) ∧ X.cell? ⟨w.heap.size, 2, none⟩ = some (.int .i64 u.port)) (by kernel_rfl) ?_
  have hS0 : W3.drew.cell? ⟨w.heap.size, 0, none⟩ = some (.slice q0 n0 c0) ∧ W3.drew.cell? ⟨w.heap.size, 2, none⟩ = some (.int .i64 u.port) := ⟨c0', c2'⟩
  have hBd : Below W3.heap.size W3 W3.drew := (Below.refl _ _).drew
  have conO' := conO _ hBd
  have hrd : W3.drew.ownsRow (w.heap.size + 1) 5 1 (.slice qr n cr) n (byV (u.scheme ++ sepS ++ u.host)) := hrow'
  have hB3d : Below w.heap.size w W3.drew := hB3.drew
  clear c0' c2' conO hrow' hB3 hBd g0'
  generalize W3.drew = X at *
  refine wpAnyH_take (i := 0) (v := (.pointer (some ⟨w.heap.size, 2, none⟩))) rfl (by kernel_rfl) (by kernel_rfl) (by kernel_rfl) (fun _ _ _ h => h) (.inl ⟨by kernel_rfl, ?_⟩) hS0 ?_
  · rintro w ⟨h1, h2⟩; go_simp
  refine plist #[true, false, false, false, false, false] (by kernel_rfl) ?_
  refine wpAnyH_take (i := 1) (v := (.int .i64 u.port)) rfl (by kernel_rfl) (by kernel_rfl) (by kernel_rfl) (fun _ _ _ h => h) (.inl ⟨by kernel_rfl, ?_⟩) hS0 ?_
  · rintro w ⟨h1, h2⟩; go_simp
  refine plist #[true, true, false, false, false, false] (by kernel_rfl) ?_
  refine wpAnyH_take (i := 2) (v := (.pointer (some ⟨w.heap.size, 0, none⟩))) rfl (by kernel_rfl) (by kernel_rfl) (by kernel_rfl) (fun _ _ _ h => h) (.inl ⟨by kernel_rfl, ?_⟩) hS0 ?_
  · rintro w ⟨h1, h2⟩; go_simp
  refine plist #[true, true, true, false, false, false] (by kernel_rfl) ?_
  refine wpAnyH_take (i := 3) (v := (.slice q0 n0 c0)) rfl (by kernel_rfl) (by kernel_rfl) (by kernel_rfl) (fun _ _ _ h => h) (.inl ⟨by kernel_rfl, ?_⟩) hS0 ?_
  · rintro w ⟨h1, h2⟩; go_simp
  refine plist #[true, true, true, true, false, false] (by kernel_rfl) ?_
  refine pone 4 (by kernel_rfl) rfl fun K hK => ?_
  go_simp
  refine conO'.mono ?_
  rintro e X4 ⟨rfl, hb4⟩
  have hS4 := And.intro (cell_on hS0.1 hb4) (cell_on hS0.2 hb4)
  have hB4 := hB3d.trans (hb4.mono hB3d.size)
  have hr4 := (Keep.of_below hb4).row hrd (fun k hk => (hrd.lt k hk).2)
  refine hK _ _ hS4 ?_
  clear hK K conO' hS0 hB3d hrd
  refine plist #[true, true, true, true, true, false] (by kernel_rfl) ?_
  by_cases hpo : u.port = own
  · have e5 : ((u.port : Int) == (own : Int)) = true := by rw [beq_iff_eq]; omega
    have H := Lib.hid (show serverT u = u.scheme ++ sepS ++ u.host by rw [HST.out, HPT.out, if_pos hpo, List.append_nil])
    refine wpAnyH_take (i := 5) (v := (.bool true)) rfl (by kernel_rfl) (by kernel_rfl) (by kernel_rfl) (fun _ _ _ h => h) (.inl ⟨by kernel_rfl, ?_⟩) hS4 ?_
    · rintro w ⟨h1, h2⟩; go_simp
    refine pdone (by kernel_rfl) ?_ _
    go_wp2
    go_ret
    refine ⟨_, rfl, ?_, hB4⟩
    rw [H.out, HLN.out]; exact row_base hr4 (Nat.le_succ _)
  · have e5 : ((u.port : Int) == (own : Int)) = false := by rw [beq_eq_false_iff_ne]; omega
    have H := Lib.hid (show serverT u = (u.scheme ++ sepS ++ u.host ++ [58]) ++ digL u.port by rw [HST.out, HPT.out, if_neg hpo]; simp)
    refine wpAnyH_take (i := 5) (v := (.bool false)) rfl (by kernel_rfl) (by kernel_rfl) (by kernel_rfl) (fun _ _ _ h => h) (.inl ⟨by kernel_rfl, ?_⟩) hS4 ?_
    · rintro w ⟨h1, h2⟩; go_simp
    refine pdone (by kernel_rfl) ?_ _
    clear e5
    go_wp2_with fail
    refine pregion_any (fun X => X.cell? ⟨w.heap.size, 2, none⟩ = some (.int .i64 u.port)) (by kernel_rfl) ?_
    have hS5 : X4.drew.cell? ⟨w.heap.size, 2, none⟩ = some (.int .i64 u.port) := hS4.2
    have hr5 : X4.drew.ownsRow (w.heap.size + 1) 5 1 (.slice qr n cr) n (byV (u.scheme ++ sepS ++ u.host)) := hr4
    have hB5 : Below w.heap.size w X4.drew := hB4.drew
    have hgt : w.heap.size + 1 ≤ X4.drew.heap.size := World.block_lt_of_cell? _ _ hS5
    clear hS4 hr4 hB4
    generalize X4.drew = Y at *
    refine wpAnyH_take (i := 0) (v := (.slice qr n cr)) rfl (by kernel_rfl) (by kernel_rfl) (by kernel_rfl) (fun _ _ _ h => h) (.inl ⟨by kernel_rfl, ?_⟩) hS5 ?_
    · rintro w h1; go_simp
    refine plist #[true, false, false, false, false, false, false] (by kernel_rfl) ?_
    refine wpAnyH_take (i := 3) (v := (.pointer (some ⟨w.heap.size, 2, none⟩))) rfl (by kernel_rfl) (by kernel_rfl) (by kernel_rfl) (fun _ _ _ h => h) (.inl ⟨by kernel_rfl, ?_⟩) hS5 ?_
    · rintro w h1; go_simp
    refine plist #[true, false, false, true, false, false, false] (by kernel_rfl) ?_
    refine wpAnyH_take (i := 4) (v := (.int .i64 u.port)) rfl (by kernel_rfl) (by kernel_rfl) (by kernel_rfl) (fun _ _ _ h => h) (.inl ⟨by kernel_rfl, ?_⟩) hS5 ?_
    · rintro w h1; go_simp
    refine plist #[true, false, false, true, true, false, false] (by kernel_rfl) ?_
    refine pone 1 (by kernel_rfl) rfl fun K hK => ?_
    go_simp
    have hbl := (Below.refl Y.heap.size Y).alloc (Nat.le_refl _) (.cells #[.int .u8 58] 5)
    have hS6 := cell_on hS5 hbl
    refine hK _ _ hS6 ?_
    clear hK K
    refine plist #[true, true, false, true, true, false, false] (by kernel_rfl) ?_
    refine pone 2 (by kernel_rfl) rfl fun K hK => ?_
    rw [if_pos (by rfl)]
    have hsY := hB5.size
    refine wp_append_by (Operand.tmp 19) (Operand.tmp 20) rfl (w.heap.size + 1) (.slice qr n cr) n _ rfl (hr5.alloc _) _ [58] rfl (by_lit Y #[.int .u8 58] [58] (0, 0) 1 rfl rfl (by decide)) (by simp; omega) (by simp; omega) ?_
    intro v7 Z hr7 hg7
    have hb7 : Below (w.heap.size + 1) Y Z := (hbl.mono hgt).trans (grown_below (hr5.alloc _) hg7 (by simp; omega))
    have hB7 := hB5.trans (hb7.mono (Nat.le_succ _))
    have hS7 : Z.cell? ⟨w.heap.size, 2, none⟩ = some (.int .i64 u.port) := cell_below hS5 hb7 (Nat.lt_succ_self _)
    refine hK _ _ hS7 ?_
    clear hK K
    refine plist #[true, true, true, true, true, false, false] (by kernel_rfl) ?_
    refine pone 5 (by kernel_rfl) rfl fun K hK => ?_
    go_simp
    refine (AppendInt_any (w.heap.size + 1) (n + 1) u.port v7 _ Z hr7 hp2 (Nat.le_trans hgt hb7.size) (by omega) (Gl.tab hG hB7 (Nat.le_succ _))).mono ?_
    rintro e V ⟨v8, rfl, hr8, hb8⟩
    have hS8 := cell_below hS7 hb8 (Nat.lt_succ_self _)
    refine hK _ _ hS8 ?_
    clear hK K
    refine plist #[true, true, true, true, true, true, false] (by kernel_rfl) ?_
    refine pone 6 (by kernel_rfl) rfl fun K hK => ?_
    go_simp
    refine hK _ _ hS8 ?_
    clear hK K
    refine pdone (by kernel_rfl) ?_ _
    go_wp2
    go_ret
    refine ⟨_, rfl, ?_, hB7.trans (hb8.mono (Nat.le_succ _))⟩
    rw [H.out, List.length_append, List.length_append, HLN.out, byV_app, byV_app]
    exact row_base hr8 (Nat.le_succ _)
end Go.Proofs.YtedglpfdibamdaaGreatDoor.Url
namespace Go.Proofs.YtedglpfdibamdaaGreatDoor.Url
open Go.RowKit Go.Shelf
attribute [local go_sem] Oper.semAt_some
def Box (B : Nat) (cs : Array Value) (X : World) : Prop := ∀ i x, cs[i]? = some x → X.cell? ⟨B, i, none⟩ = some x
theorem Box.on {B : Nat} {cs : Array Value} {X Y : World} (h : Box B cs X) (hk : Below X.heap.size X Y) : Box B cs Y := fun i x hx => cell_on (h i x hx) hk
theorem Box.below {B M : Nat} {cs : Array Value} {X Y : World} (h : Box B cs X) (hk : Below M X Y) (hB : B < M) : Box B cs Y := fun i x hx => cell_below (h i x hx) hk hB
theorem Box.new (w : World) (cs : Array Value) (t : TypeId) : Box w.heap.size cs (w.alloc (.cells cs t)) := fun i x h => box_cell w cs t i x h
set_option maxRecDepth 100000 in
set_option maxHeartbeats 8000000 in
theorem Text_any (u : U) (v : Value) (w : World) (h : UrlIn w v u) (hok : Ok u) (hG : Gl w) (hlen : (textU u).length ≤ 1048576) :
    Calls Tryz.prog 115 #[v] w fun e w' => ∃ v', e = .returned v' ∧ w'.ownsRow w.heap.size 5 1 v' (textU u).length (byV (textU u)) ∧ Below w.heap.size w w' := by
  obtain ⟨q0, n0, c0, q1, n1, c1, q3, n3, c3, q4, n4, c4, q5, n5, c5, rfl, h0, h1, h3, h4, h5⟩ := h
  have hT := text_server u
  have hql : (queryT u).length = if u.hq then u.query.length + 1 else 0 := by unfold queryT; split <;> simp
  have hfl : (fragT u).length = if u.hf then u.frag.length + 1 else 0 := by unfold fragT; split <;> simp
  have hlt : (serverT u).length + u.path.length + (queryT u).length + (fragT u).length ≤ 1048576 := by rw [hT] at hlen; simp only [List.length_append] at hlen; omega
  have HQ := Lib.hid (show queryT u = if u.hq then 63 :: u.query else [] from rfl)
  have HF := Lib.hid (show fragT u = if u.hf then 35 :: u.frag else [] from rfl)
  have HT := Lib.hid hT
  clear hT
  obtain ⟨W1, hW1⟩ : ∃ W1, w.alloc (.cells #[.slice q0 n0 c0, .slice q1 n1 c1, .int .i64 u.port, .slice q3 n3 c3, .slice q4 n4 c4, .slice q5 n5 c5, .bool u.hq, .bool u.hf] 100) = W1 := ⟨_, rfl⟩
  have hs1 : W1.heap.size = w.heap.size + 1 := by rw [← hW1]; simp
  have hB1 : Below w.heap.size w W1 := by rw [← hW1]; exact (Below.refl _ w).alloc (Nat.le_refl _) _
  have hbox : Box w.heap.size #[.slice q0 n0 c0, .slice q1 n1 c1, .int .i64 u.port, .slice q3 n3 c3, .slice q4 n4 c4, .slice q5 n5 c5, .bool u.hq, .bool u.hf] W1 := by rw [← hW1]; exact Box.new w _ _
  have hin : UrlIn W1 (.agg #[.slice q0 n0 c0, .slice q1 n1 c1, .int .i64 u.port, .slice q3 n3 c3, .slice q4 n4 c4, .slice q5 n5 c5, .bool u.hq, .bool u.hf]) u := UrlIn.on ⟨q0, n0, c0, q1, n1, c1, q3, n3, c3, q4, n4, c4, q5, n5, c5, rfl, h0, h1, h3, h4, h5⟩ hB1
  have con := fun X (hX : Below W1.heap.size W1 X) => server_any u _ X (hin.on hX) hok ((hG.on hB1).on hX) hlen
  have HW1 := Lib.hid hW1
  clear hW1 hin hok hG hlen
  generalize u.hq = bq at *
  generalize u.hf = bf at *
  go_enter Tryz.func115, Tryz.ntmps115
  go_wp2_with fail
  rw [HW1.out]
  refine pregion_any (Box w.heap.size #[.slice q0 n0 c0, .slice q1 n1 c1, .int .i64 u.port, .slice q3 n3 c3, .slice q4 n4 c4, .slice q5 n5 c5, .bool bq, .bool bf]) (by kernel_rfl) ?_
  have hS0 : Box w.heap.size #[.slice q0 n0 c0, .slice q1 n1 c1, .int .i64 u.port, .slice q3 n3 c3, .slice q4 n4 c4, .slice q5 n5 c5, .bool bq, .bool bf] W1.drew := hbox
  have con' := con _ ((Below.refl _ _).drew)
  have hBd : Below w.heap.size w W1.drew := hB1.drew
  have hsd : W1.drew.heap.size = w.heap.size + 1 := hs1
  clear con hbox HW1 hB1 hs1
  generalize W1.drew = X at *
  refine wpAnyH_take (i := 0) (v := (.agg #[.slice q0 n0 c0, .slice q1 n1 c1, .int .i64 u.port, .slice q3 n3 c3, .slice q4 n4 c4, .slice q5 n5 c5, .bool bq, .bool bf])) rfl (by kernel_rfl) (by kernel_rfl) (by kernel_rfl) (fun _ _ _ h => h) (.inl ⟨by kernel_rfl, ?_⟩) hS0 ?_
  · rintro w h; have e0 := h 0 _ rfl; have e1 := h 1 _ rfl; have e2 := h 2 _ rfl; have e3 := h 3 _ rfl; have e4 := h 4 _ rfl; have e5 := h 5 _ rfl; have e6 := h 6 _ rfl; have e7 := h 7 _ rfl; go_simp
  refine plist #[true, false, false, false, false, false] (by kernel_rfl) ?_
  refine wpAnyH_take (i := 2) (v := (.pointer (some ⟨w.heap.size, 3, none⟩))) rfl (by kernel_rfl) (by kernel_rfl) (by kernel_rfl) (fun _ _ _ h => h) (.inl ⟨by kernel_rfl, ?_⟩) hS0 ?_
  · rintro w h; go_simp
  refine plist #[true, false, true, false, false, false] (by kernel_rfl) ?_
  refine wpAnyH_take (i := 3) (v := (.slice q3 n3 c3)) rfl (by kernel_rfl) (by kernel_rfl) (by kernel_rfl) (fun _ _ _ h => h) (.inl ⟨by kernel_rfl, ?_⟩) hS0 ?_
  · rintro w h; have h' := h 3 _ rfl; go_simp
  refine plist #[true, false, true, true, false, false] (by kernel_rfl) ?_
  refine pone 1 (by kernel_rfl) rfl fun K hK => ?_
  go_simp
  refine con'.mono ?_
  rintro e X1 ⟨v1, rfl, hr1, hb1⟩
  rw [hsd] at hr1 hb1
  have hS1 := Box.below hS0 hb1 (Nat.lt_succ_self _)
  have hB1 := hBd.trans (hb1.mono (Nat.le_succ _))
  have hgt1 : w.heap.size + 1 ≤ X1.heap.size := by have := hb1.size; omega
  refine hK _ _ hS1 ?_
  clear hK K con' hS0 hBd
  refine plist #[true, true, true, true, false, false] (by kernel_rfl) ?_
  refine pone 4 (by kernel_rfl) rfl fun K hK => ?_
  rw [if_pos (by rfl)]
  refine wp_append_by (Operand.tmp 5) (Operand.tmp 7) rfl (w.heap.size + 1) v1 _ _ rfl hr1 _ u.path rfl (h3.on hB1) (by omega) hgt1 ?_
  intro v2 Y hr hg2
  have hb2 := grown_below hr1 hg2 hgt1
  have hS := Box.below hS1 hb2 (Nat.lt_succ_self _)
  have hB := hB1.trans (hb2.mono (Nat.le_succ _))
  have hgt : w.heap.size + 1 ≤ Y.heap.size := Nat.le_trans hgt1 hb2.size
  refine hK _ _ hS ?_
  clear hK K hb1 hr1 hS1 hB1 hgt1 hg2 hb2
  refine plist #[true, true, true, true, true, false] (by kernel_rfl) ?_
  refine pone 5 (by kernel_rfl) rfl fun K hK => ?_
  go_simp
  refine hK _ _ hS ?_
  clear hK K
  refine pdone (by kernel_rfl) ?_ _
  rw [← byV_app] at hr
  have HLA := Lib.hid (show (serverT u ++ u.path).length = (serverT u).length + u.path.length from List.length_append)
  obtain ⟨q2, c2, rfl, _, _, _, _, _⟩ := row_open hr
  have h6 := hS 6 _ rfl
  cases bq with
  | false =>
    have h7 := hS 7 _ rfl
    cases bf with
    | false =>
      go_wp2
      go_ret
      have HE : textU u = serverT u ++ u.path := by rw [HT.out, HQ.out, HF.out]; simp
      rw [HE]
      have hll : (serverT u ++ u.path).length = (serverT u).length + u.path.length := by simp only [List.length_append]
      rw [hll]
      exact ⟨_, rfl, row_base hr (Nat.le_succ _), hB⟩
    | true =>
      rw [if_pos rfl] at hfl
      go_wp2_with fail
      refine pregion_any (Box w.heap.size #[.slice q0 n0 c0, .slice q1 n1 c1, .int .i64 u.port, .slice q3 n3 c3, .slice q4 n4 c4, .slice q5 n5 c5, .bool false, .bool true]) (by kernel_rfl) ?_
      have hSe : Box w.heap.size #[.slice q0 n0 c0, .slice q1 n1 c1, .int .i64 u.port, .slice q3 n3 c3, .slice q4 n4 c4, .slice q5 n5 c5, .bool false, .bool true] Y.drew := hS
      have hre := (Keep.drew (fun _ => True) Y).row hr (fun _ _ => trivial)
      have hBe : Below w.heap.size w Y.drew := hB.drew
      have hgte : w.heap.size + 1 ≤ Y.drew.heap.size := hgt
      clear hS hr hB hgt
      generalize Y.drew = Ye at *
      refine wpAnyH_take (i := 0) (v := (.slice q2 ((serverT u).length + u.path.length) c2)) rfl (by kernel_rfl) (by kernel_rfl) (by kernel_rfl) (fun _ _ _ h => h) (.inl ⟨by kernel_rfl, ?_⟩) hSe ?_
      · rintro w h; go_simp
      refine plist #[true, false, false, false, false, false, false] (by kernel_rfl) ?_
      refine wpAnyH_take (i := 3) (v := (.pointer (some ⟨w.heap.size, 5, none⟩))) rfl (by kernel_rfl) (by kernel_rfl) (by kernel_rfl) (fun _ _ _ h => h) (.inl ⟨by kernel_rfl, ?_⟩) hSe ?_
      · rintro w h; go_simp
      refine plist #[true, false, false, true, false, false, false] (by kernel_rfl) ?_
      refine wpAnyH_take (i := 4) (v := (.slice q5 n5 c5)) rfl (by kernel_rfl) (by kernel_rfl) (by kernel_rfl) (fun _ _ _ h => h) (.inl ⟨by kernel_rfl, ?_⟩) hSe ?_
      · rintro w h; have h' := h 5 _ rfl; go_simp
      refine plist #[true, false, false, true, true, false, false] (by kernel_rfl) ?_
      refine pone 1 (by kernel_rfl) rfl fun K hK => ?_
      go_simp
      refine hK _ _ (Box.on hSe ((Below.refl _ _).alloc (Nat.le_refl _) _)) ?_
      clear hK K
      refine plist #[true, true, false, true, true, false, false] (by kernel_rfl) ?_
      refine pone 2 (by kernel_rfl) rfl fun K hK => ?_
      rw [if_pos (by rfl)]
      refine wp_append_by (Operand.tmp 19) (Operand.tmp 20) rfl (w.heap.size + 1) _ _ _ rfl (hre.alloc _) _ [35] rfl (by_lit Ye #[.int .u8 35] [35] (0, 0) 1 rfl rfl (by decide)) (by simp; omega) (by simp; omega) ?_
      intro va Za hra hga
      have hba : Below (w.heap.size + 1) Ye Za := (((Below.refl Ye.heap.size Ye).alloc (Nat.le_refl _) (.cells #[.int .u8 35] 5)).mono hgte).trans (grown_below (hre.alloc _) hga (by simp; omega))
      have hSa := Box.below hSe hba (Nat.lt_succ_self _)
      refine hK _ _ hSa ?_
      clear hK K
      refine plist #[true, true, true, true, true, false, false] (by kernel_rfl) ?_
      refine pone 5 (by kernel_rfl) rfl fun K hK => ?_
      rw [if_pos (by rfl)]
      refine wp_append_by (Operand.tmp 21) (Operand.tmp 23) rfl (w.heap.size + 1) va _ _ rfl hra _ u.frag rfl (h5.on (hBe.trans (hba.mono (Nat.le_succ _)))) (by simp; omega) (Nat.le_trans hgte hba.size) ?_
      intro vf Yf hrf hgb
      have hbb : Below (w.heap.size + 1) Ye Yf := hba.trans (grown_below hra hgb (Nat.le_trans hgte hba.size))
      have hSf := Box.below hSe hbb (Nat.lt_succ_self _)
      refine hK _ _ hSf ?_
      clear hK K
      refine plist #[true, true, true, true, true, true, false] (by kernel_rfl) ?_
      refine pone 6 (by kernel_rfl) rfl fun K hK => ?_
      go_simp
      refine hK _ _ hSf ?_
      clear hK K
      refine pdone (by kernel_rfl) ?_ _
      have hBf := hBe.trans (hbb.mono (Nat.le_succ _))
      have hgtf := Nat.le_trans hgte hbb.size
      rw [List.length_singleton, ← byV_app, ← byV_app] at hrf
      obtain ⟨qf, ccf, rfl, _, _, _, _, _⟩ := row_open hrf
      clear hra hga hba hgb hbb hSa hSe hre hBe hgte
      go_wp2
      go_ret
      have HE : textU u = (serverT u ++ u.path) ++ [35] ++ u.frag := by rw [HT.out, HQ.out, HF.out]; simp
      rw [HE]
      have hll : ((serverT u ++ u.path) ++ [35] ++ u.frag).length = (serverT u).length + u.path.length + 1 + u.frag.length := by simp only [List.length_append, List.length_cons, List.length_nil]
      rw [hll]
      exact ⟨_, rfl, row_base hrf (Nat.le_succ _), hBf⟩
  | true =>
    rw [if_pos rfl] at hql
    go_wp2_with fail
    refine pregion_any (Box w.heap.size #[.slice q0 n0 c0, .slice q1 n1 c1, .int .i64 u.port, .slice q3 n3 c3, .slice q4 n4 c4, .slice q5 n5 c5, .bool true, .bool bf]) (by kernel_rfl) ?_
    have hSb : Box w.heap.size #[.slice q0 n0 c0, .slice q1 n1 c1, .int .i64 u.port, .slice q3 n3 c3, .slice q4 n4 c4, .slice q5 n5 c5, .bool true, .bool bf] Y.drew := hS
    have hrb := (Keep.drew (fun _ => True) Y).row hr (fun _ _ => trivial)
    have hBb : Below w.heap.size w Y.drew := hB.drew
    have hgtb : w.heap.size + 1 ≤ Y.drew.heap.size := hgt
    clear hS hr hB hgt
    generalize Y.drew = Yb at *
    refine wpAnyH_take (i := 0) (v := (.slice q2 ((serverT u).length + u.path.length) c2)) rfl (by kernel_rfl) (by kernel_rfl) (by kernel_rfl) (fun _ _ _ h => h) (.inl ⟨by kernel_rfl, ?_⟩) hSb ?_
    · rintro w h; go_simp
    refine plist #[true, false, false, false, false, false, false] (by kernel_rfl) ?_
    refine wpAnyH_take (i := 3) (v := (.pointer (some ⟨w.heap.size, 4, none⟩))) rfl (by kernel_rfl) (by kernel_rfl) (by kernel_rfl) (fun _ _ _ h => h) (.inl ⟨by kernel_rfl, ?_⟩) hSb ?_
    · rintro w h; go_simp
    refine plist #[true, false, false, true, false, false, false] (by kernel_rfl) ?_
    refine wpAnyH_take (i := 4) (v := (.slice q4 n4 c4)) rfl (by kernel_rfl) (by kernel_rfl) (by kernel_rfl) (fun _ _ _ h => h) (.inl ⟨by kernel_rfl, ?_⟩) hSb ?_
    · rintro w h; have h' := h 4 _ rfl; go_simp
    refine plist #[true, false, false, true, true, false, false] (by kernel_rfl) ?_
    refine pone 1 (by kernel_rfl) rfl fun K hK => ?_
    go_simp
    refine hK _ _ (Box.on hSb ((Below.refl _ _).alloc (Nat.le_refl _) _)) ?_
    clear hK K
    refine plist #[true, true, false, true, true, false, false] (by kernel_rfl) ?_
    refine pone 2 (by kernel_rfl) rfl fun K hK => ?_
    rw [if_pos (by rfl)]
    refine wp_append_by (Operand.tmp 11) (Operand.tmp 12) rfl (w.heap.size + 1) _ _ _ rfl (hrb.alloc _) _ [63] rfl (by_lit Yb #[.int .u8 63] [63] (0, 0) 1 rfl rfl (by decide)) (by simp; omega) (by simp; omega) ?_
    intro va Za hra hga
    have hba : Below (w.heap.size + 1) Yb Za := (((Below.refl Yb.heap.size Yb).alloc (Nat.le_refl _) (.cells #[.int .u8 63] 5)).mono hgtb).trans (grown_below (hrb.alloc _) hga (by simp; omega))
    have hSa := Box.below hSb hba (Nat.lt_succ_self _)
    refine hK _ _ hSa ?_
    clear hK K
    refine plist #[true, true, true, true, true, false, false] (by kernel_rfl) ?_
    refine pone 5 (by kernel_rfl) rfl fun K hK => ?_
    rw [if_pos (by rfl)]
    refine wp_append_by (Operand.tmp 13) (Operand.tmp 15) rfl (w.heap.size + 1) va _ _ rfl hra _ u.query rfl (h4.on (hBb.trans (hba.mono (Nat.le_succ _)))) (by simp; omega) (Nat.le_trans hgtb hba.size) ?_
    intro vc Yc hrc hgb
    have hbb : Below (w.heap.size + 1) Yb Yc := hba.trans (grown_below hra hgb (Nat.le_trans hgtb hba.size))
    have hSc := Box.below hSb hbb (Nat.lt_succ_self _)
    refine hK _ _ hSc ?_
    clear hK K
    refine plist #[true, true, true, true, true, true, false] (by kernel_rfl) ?_
    refine pone 6 (by kernel_rfl) rfl fun K hK => ?_
    go_simp
    refine hK _ _ hSc ?_
    clear hK K
    refine pdone (by kernel_rfl) ?_ _
    have hBc := hBb.trans (hbb.mono (Nat.le_succ _))
    have hgtc := Nat.le_trans hgtb hbb.size
    rw [List.length_singleton, ← byV_app, ← byV_app] at hrc
    obtain ⟨qc, ccc, rfl, _, _, _, _, _⟩ := row_open hrc
    clear hra hga hba hgb hbb hSa hSb hrb hBb hgtb
    have h7 := hSc 7 _ rfl
    cases bf with
    | false =>
      go_wp2
      go_ret
      have HE : textU u = (serverT u ++ u.path) ++ [63] ++ u.query := by rw [HT.out, HQ.out, HF.out]; simp
      rw [HE]
      have hll : ((serverT u ++ u.path) ++ [63] ++ u.query).length = (serverT u).length + u.path.length + 1 + u.query.length := by simp only [List.length_append, List.length_cons, List.length_nil]
      rw [hll]
      exact ⟨_, rfl, row_base hrc (Nat.le_succ _), hBc⟩
    | true =>
      rw [if_pos rfl] at hfl
      go_wp2_with fail
      refine pregion_any (Box w.heap.size #[.slice q0 n0 c0, .slice q1 n1 c1, .int .i64 u.port, .slice q3 n3 c3, .slice q4 n4 c4, .slice q5 n5 c5, .bool true, .bool true]) (by kernel_rfl) ?_
      have hSe : Box w.heap.size #[.slice q0 n0 c0, .slice q1 n1 c1, .int .i64 u.port, .slice q3 n3 c3, .slice q4 n4 c4, .slice q5 n5 c5, .bool true, .bool true] Yc.drew := hSc
      have hre := (Keep.drew (fun _ => True) Yc).row hrc (fun _ _ => trivial)
      have hBe : Below w.heap.size w Yc.drew := hBc.drew
      have hgte : w.heap.size + 1 ≤ Yc.drew.heap.size := hgtc
      clear hSc hrc hBc hgtc
      generalize Yc.drew = Ye at *
      refine wpAnyH_take (i := 0) (v := (.slice qc ((serverT u).length + u.path.length + 1 + u.query.length) ccc)) rfl (by kernel_rfl) (by kernel_rfl) (by kernel_rfl) (fun _ _ _ h => h) (.inl ⟨by kernel_rfl, ?_⟩) hSe ?_
      · rintro w h; go_simp
      refine plist #[true, false, false, false, false, false, false] (by kernel_rfl) ?_
      refine wpAnyH_take (i := 3) (v := (.pointer (some ⟨w.heap.size, 5, none⟩))) rfl (by kernel_rfl) (by kernel_rfl) (by kernel_rfl) (fun _ _ _ h => h) (.inl ⟨by kernel_rfl, ?_⟩) hSe ?_
      · rintro w h; go_simp
      refine plist #[true, false, false, true, false, false, false] (by kernel_rfl) ?_
      refine wpAnyH_take (i := 4) (v := (.slice q5 n5 c5)) rfl (by kernel_rfl) (by kernel_rfl) (by kernel_rfl) (fun _ _ _ h => h) (.inl ⟨by kernel_rfl, ?_⟩) hSe ?_
      · rintro w h; have h' := h 5 _ rfl; go_simp
      refine plist #[true, false, false, true, true, false, false] (by kernel_rfl) ?_
      refine pone 1 (by kernel_rfl) rfl fun K hK => ?_
      go_simp
      refine hK _ _ (Box.on hSe ((Below.refl _ _).alloc (Nat.le_refl _) _)) ?_
      clear hK K
      refine plist #[true, true, false, true, true, false, false] (by kernel_rfl) ?_
      refine pone 2 (by kernel_rfl) rfl fun K hK => ?_
      rw [if_pos (by rfl)]
      refine wp_append_by (Operand.tmp 19) (Operand.tmp 20) rfl (w.heap.size + 1) _ _ _ rfl (hre.alloc _) _ [35] rfl (by_lit Ye #[.int .u8 35] [35] (0, 0) 1 rfl rfl (by decide)) (by simp; omega) (by simp; omega) ?_
      intro va Za hra hga
      have hba : Below (w.heap.size + 1) Ye Za := (((Below.refl Ye.heap.size Ye).alloc (Nat.le_refl _) (.cells #[.int .u8 35] 5)).mono hgte).trans (grown_below (hre.alloc _) hga (by simp; omega))
      have hSa := Box.below hSe hba (Nat.lt_succ_self _)
      refine hK _ _ hSa ?_
      clear hK K
      refine plist #[true, true, true, true, true, false, false] (by kernel_rfl) ?_
      refine pone 5 (by kernel_rfl) rfl fun K hK => ?_
      rw [if_pos (by rfl)]
      refine wp_append_by (Operand.tmp 21) (Operand.tmp 23) rfl (w.heap.size + 1) va _ _ rfl hra _ u.frag rfl (h5.on (hBe.trans (hba.mono (Nat.le_succ _)))) (by simp; omega) (Nat.le_trans hgte hba.size) ?_
      intro vf Yf hrf hgb
      have hbb : Below (w.heap.size + 1) Ye Yf := hba.trans (grown_below hra hgb (Nat.le_trans hgte hba.size))
      have hSf := Box.below hSe hbb (Nat.lt_succ_self _)
      refine hK _ _ hSf ?_
      clear hK K
      refine plist #[true, true, true, true, true, true, false] (by kernel_rfl) ?_
      refine pone 6 (by kernel_rfl) rfl fun K hK => ?_
      go_simp
      refine hK _ _ hSf ?_
      clear hK K
      refine pdone (by kernel_rfl) ?_ _
      have hBf := hBe.trans (hbb.mono (Nat.le_succ _))
      have hgtf := Nat.le_trans hgte hbb.size
      rw [List.length_singleton, ← byV_app, ← byV_app] at hrf
      obtain ⟨qf, ccf, rfl, _, _, _, _, _⟩ := row_open hrf
      clear hra hga hba hgb hbb hSa hSe hre hBe hgte
      go_wp2
      go_ret
      have HE : textU u = ((serverT u ++ u.path) ++ [63] ++ u.query) ++ [35] ++ u.frag := by rw [HT.out, HQ.out, HF.out]; simp
      rw [HE]
      have hll : (((serverT u ++ u.path) ++ [63] ++ u.query) ++ [35] ++ u.frag).length = (serverT u).length + u.path.length + 1 + u.query.length + 1 + u.frag.length := by simp only [List.length_append, List.length_cons, List.length_nil]
      rw [hll]
      exact ⟨_, rfl, row_base hrf (Nat.le_succ _), hBf⟩
end Go.Proofs.YtedglpfdibamdaaGreatDoor.Url
namespace Go.Proofs.YtedglpfdibamdaaGreatDoor.Hdr
open Go.RowKit Go.Shelf Url
set_option linter.unusedVariables false
abbrev C3 := Option Addr × Nat × Nat
def vC (z : C3) : Value := .slice z.1 z.2.1 z.2.2
abbrev FZ := (C3 × C3) × Fld
def ByA (B : Nat) (w : World) (z : C3) (l : List UInt8) : Prop := By w (vC z) l ∧ ∀ a, z.1 = some a → 0 < z.2.1 → B ≤ a.block
def FAt (B : Nat) (w : World) (z : FZ) : Prop := ByA B w z.1.1 z.2.1 ∧ ByA B w z.1.2 z.2.2
def FlsIn (B : Nat) (w : World) (q : Option Addr) (n : Nat) (zs : List FZ) : Prop :=
  zs.length = n ∧ (0 < n → ∃ g o, q = some ⟨g, o, none⟩ ∧ B ≤ g ∧ g < w.heap.size ∧ ∀ i z, zs[i]? = some z → w.cell? ⟨g, o + i * 2, none⟩ = some (vC z.1.1) ∧ w.cell? ⟨g, o + i * 2 + 1, none⟩ = some (vC z.1.2)) ∧ ∀ z ∈ zs, FAt B w z
theorem FlsIn.nil (B : Nat) (w : World) (q : Option Addr) : FlsIn B w q 0 [] := ⟨rfl, fun h => absurd h (by omega), fun _ h => by cases h⟩
def HdrIn (B : Nat) (w : World) (q : Option Addr) (n c : Nat) (l : List Fld) : Prop :=
  (q = none → c = 0) ∧ n ≤ c ∧ l.length = n ∧ (0 < n → ∃ g o, q = some ⟨g, o, none⟩ ∧ B ≤ g ∧ g < w.heap.size ∧ ∀ i f, l[i]? = some f → w.cell? ⟨g, o + i * 2, none⟩ = some (.string ⟨f.1.toArray⟩) ∧ w.cell? ⟨g, o + i * 2 + 1, none⟩ = some (.string ⟨f.2.toArray⟩))
theorem HdrIn.keepS {B : Nat} {w w' : World} {q : Option Addr} {n c : Nat} {l : List Fld} {S : Nat → Prop} (h : HdrIn B w q n c l) (hk : Keep S w w') (hS : ∀ g, B ≤ g → g < w.heap.size → S g) : HdrIn B w' q n c l := by
  refine ⟨h.1, h.2.1, h.2.2.1, fun h0 => ?_⟩
  obtain ⟨g, o, hq, hB, hg, hc⟩ := h.2.2.2 h0
  have hb := hk.block g hg (hS g hB hg)
  have hcell : ∀ j, w'.cell? ⟨g, j, none⟩ = w.cell? ⟨g, j, none⟩ := fun j => by simp only [World.cell?, hb]
  exact ⟨g, o, hq, hB, Nat.lt_of_lt_of_le hg hk.size, fun i z hz => by rw [hcell, hcell]; exact hc i z hz⟩
theorem HdrIn.below {B : Nat} {w w' : World} {q : Option Addr} {n c : Nat} {l : List Fld} (h : HdrIn B w q n c l) (hb : Below w.heap.size w w') : HdrIn B w' q n c l := h.keepS (Keep.of_below hb) fun _ _ h => h
theorem HdrIn.nil (B : Nat) (w : World) : HdrIn B w none 0 0 [] := ⟨fun _ => rfl, Nat.le_refl _, rfl, fun h => absurd h (by omega)⟩
theorem HdrIn.len {B : Nat} {w : World} {q : Option Addr} {n c : Nat} {l : List Fld} (h : HdrIn B w q n c l) : l.length = n := h.2.2.1
def TellsOut {α : Type} (Arg : α → Array Value → (Nat → Prop) → World → Prop) (xs : List α) (w : World) (e : Ending) (w' : World) : Prop :=
  ∃ (gf : Nat) (lb : Array Value) (RB : Nat → Prop), e = .returned (.func (.func gf) #[] lb) ∧ (∀ args w, (callFunc gf args).run Tryz.prog w = .ok (.enter gf args) w) ∧ IterC Tryz.prog gf lb Arg xs RB w' ∧ (∀ b, RB b → b < w'.heap.size) ∧ Below w.heap.size w w'
def HX (b : Nat) (B : Nat) (q : Option Addr) (n c : Nat) (l : List Fld) (X : World) : Prop := Boxed X b 42 (.slice q n c) ∧ HdrIn B X q n c l
end Go.Proofs.YtedglpfdibamdaaGreatDoor.Hdr
namespace Go.Proofs.YtedglpfdibamdaaGreatDoor.Url
open Go.RowKit Go.Shelf
attribute [local go_sem] Oper.semAt_some
def zeroU : Array Value := #[.slice none 0 0, .slice none 0 0, .int .i64 0, .slice none 0 0, .slice none 0 0, .slice none 0 0, .bool false, .bool false]
def UB (B : Nat) (cs : Array Value) (X : World) : Prop := X.heap[B]? = some (.cells cs 100 (0, 0))
theorem UB.box {B : Nat} {cs : Array Value} {X : World} (h : UB B cs X) : Box B cs X := fun i x hx => by
  simp only [World.cell?, show X.heap[B]? = _ from h]; exact hx
theorem UB.frozen {B : Nat} {cs : Array Value} {X : World} (h : UB B cs X) (i : Nat) : X.frozen? ⟨B, i, none⟩ = false := by
  simp [World.frozen?, show X.heap[B]? = _ from h]
theorem UB.on {B : Nat} {cs : Array Value} {X Y : World} (h : UB B cs X) (hk : Below X.heap.size X Y) : UB B cs Y := (hk.block B (Array.getElem?_eq_some_iff.1 h).1).trans h
theorem UB.lt {B : Nat} {cs : Array Value} {X : World} (h : UB B cs X) : B < X.heap.size := (Array.getElem?_eq_some_iff.1 h).1
theorem UB.new (w : World) (cs : Array Value) : UB w.heap.size cs (w.alloc (.cells cs 100)) := World.alloc_heap_new w _
theorem UB.set {B : Nat} {cs : Array Value} {X : World} (h : UB B cs X) (i : Nat) (v : Value) : UB B (cs.setIfInBounds i v) (X.setCell ⟨B, i, none⟩ v) := by
  obtain ⟨hlt, hk⟩ := Array.getElem?_eq_some_iff.1 h
  show (X.heap.modify B _)[B]? = _
  rw [Array.getElem?_eq_getElem (by rw [Array.size_modify]; exact hlt), Array.getElem_modify_self, hk]
  rfl
theorem UB.put {B : Nat} {X : World} {a0 a1 a2 a3 a4 a5 a6 a7 : Value} (h : UB B #[a0, a1, a2, a3, a4, a5, a6, a7] X) (v0 v1 v2 v3 v4 v5 v6 v7 : Value) :
    ∃ Y, (((((((X.setCell ⟨B, 0, none⟩ v0).setCell ⟨B, 1, none⟩ v1).setCell ⟨B, 2, none⟩ v2).setCell ⟨B, 3, none⟩ v3).setCell ⟨B, 4, none⟩ v4).setCell ⟨B, 5, none⟩ v5).setCell ⟨B, 6, none⟩ v6).setCell ⟨B, 7, none⟩ v7 = Y ∧
      UB B #[v0, v1, v2, v3, v4, v5, v6, v7] Y ∧ (∀ S : Nat → Prop, ¬ S B → Keep S X Y) ∧ ∀ M, M ≤ B → Below M X Y := by
  have h8 := (((((((h.set 0 v0).set 1 v1).set 2 v2).set 3 v3).set 4 v4).set 5 v5).set 6 v6).set 7 v7
  simp only [List.setIfInBounds_toArray, List.set_cons_zero, List.set_cons_succ] at h8
  refine ⟨_, rfl, h8, fun S hS => ?_, fun M hM => ?_⟩
  · exact (Keep.setCell _ _ _ hS).trans ((Keep.setCell _ _ _ hS).trans ((Keep.setCell _ _ _ hS).trans ((Keep.setCell _ _ _ hS).trans ((Keep.setCell _ _ _ hS).trans ((Keep.setCell _ _ _ hS).trans ((Keep.setCell _ _ _ hS).trans (Keep.setCell _ _ _ hS)))))))
  · exact (((((((((Below.refl M X).setCell (p := ⟨B, 0, none⟩) hM v0).setCell (p := ⟨B, 1, none⟩) hM v1).setCell (p := ⟨B, 2, none⟩) hM v2).setCell (p := ⟨B, 3, none⟩) hM v3).setCell (p := ⟨B, 4, none⟩) hM v4).setCell (p := ⟨B, 5, none⟩) hM v5).setCell (p := ⟨B, 6, none⟩) hM v6).setCell (p := ⟨B, 7, none⟩) hM v7)
theorem size_url : (Tryz.prog.info? 100).map (·.size) = some 8 := by kernel_rfl
theorem ret_url2 {fn : Func} {p u : Tmp} (h : fn.results = #[.cell p 100, .tmp u]) (tmps : Array Value) (w : World) (B : Nat) (cs : Array Value) (hp : tmps.getD p undef = .pointer (some ⟨B, 0, none⟩)) (hU : UB B cs w) (hs : cs.size = 8) :
    (results fn tmps).run Tryz.prog w = .ok (.tuple #[.agg cs, tmps.getD u undef]) w := by
  rw [results_cell_tmp h, hp]
  simp [asAddr, Result.andThen, run_loadVar_row w B 100 _ cs (0, 0) _ hU Tryz.underlying100 rfl (by rw [size_url, hs])]
end Go.Proofs.YtedglpfdibamdaaGreatDoor.Url
namespace Go.Proofs.YtedglpfdibamdaaGreatDoor.Host
open Go.RowKit Go.Shelf
attribute [local go_sem] Oper.semAt_some
def upX (g : Bool) (l : List UInt8) : List (List UInt8) := if g then Ref.fromL 46 (Ref.splitL 46 l) else [l]
theorem upX_one (l : List UInt8) : upX false l = [l] := rfl
theorem upX_many (l : List UInt8) : upX true l = l :: (match tailL 46 l with | none => [] | some r => upX true r) := from_split 46 l
theorem tail_at (c : UInt8) : ∀ l : List UInt8, tailL c l = if atOk c l = true then some (atSnd c l) else none
  | [] => by simp [tailL, atOk, Lib.indexByte]
  | b :: r => by
    have ih := tail_at c r
    have hge := Lib.indexByte_ge r c
    by_cases h : b = c
    · subst h
      simp [tailL, atOk, atSnd, Lib.indexByte]
    · have e1 : tailL c (b :: r) = tailL c r := by conv => lhs; unfold tailL; rw [if_neg h]
      rw [e1, ih]
      by_cases h0 : 0 ≤ Lib.indexByte r c
      · obtain ⟨k, hk⟩ : ∃ k : Nat, Lib.indexByte r c = (k : Int) := ⟨(Lib.indexByte r c).toNat, by omega⟩
        have hk2 : Lib.indexByte (b :: r) c = ((k + 1 : Nat) : Int) := by
          unfold Lib.indexByte
          rw [if_neg (by simpa using h), hk, if_neg (by rw [beq_iff_eq]; omega)]; simp
        obtain ⟨_, s1, o1⟩ := at_found c r k hk
        obtain ⟨_, s2, o2⟩ := at_found c (b :: r) (k + 1) hk2
        rw [s1, o1, s2, o2]; rfl
      · have hk : Lib.indexByte r c = -1 := by omega
        have hk2 : Lib.indexByte (b :: r) c = -1 := by
          unfold Lib.indexByte
          rw [if_neg (by simpa using h), hk]; rfl
        obtain ⟨_, s1, o1⟩ := at_none c r hk
        obtain ⟨_, s2, o2⟩ := at_none c (b :: r) hk2
        rw [o1, o2]; rfl
theorem upX_found (l : List UInt8) (h : atOk 46 l = true) : upX true l = l :: upX true (atSnd 46 l) := by
  rw [upX_many, tail_at, if_pos h]
theorem upX_none (l : List UInt8) (h : atOk 46 l = false) : upX true l = [l] := by
  rw [upX_many, tail_at, if_neg (by rw [h]; simp)]
theorem atSnd_len (l : List UInt8) (h : atOk 46 l = true) : (atSnd 46 l).length < l.length := by
  have ht := tail_at 46 l
  rw [if_pos h] at ht
  exact tail_len 46 l _ ht
theorem upX_up (l : List UInt8) (h : parseE l = 0) (hl : Ref.lowL l = l) : upL l = upX (!addressB l) l := by
  unfold upL
  rw [if_pos ⟨h, hl⟩]
  have ha : addressB l = addrB (Ref.splitL 46 l) := by unfold addressB; rw [h]; rfl
  rw [ha]
  cases addrB (Ref.splitL 46 l) <;> rfl
theorem row_nil {W : World} {base : Nat} {e : TypeId} {size n c m : Nat} {xs : List Value} (h : W.ownsRow base e size (.slice none n c) m xs) : n = 0 ∧ c = 0 := by
  rcases h.2 with ⟨h1, _⟩ | ⟨g, cap, cur, h1, _⟩
  · cases h1; exact ⟨rfl, rfl⟩
  · cases h1
def sliceN : Value → Nat
  | .slice _ n _ => n
  | _ => 0
def boolN : Value → Nat
  | .bool true => 1
  | _ => 0
set_option maxRecDepth 100000 in
set_option maxHeartbeats 4000000 in
theorem Up2_iter (B Bg : Nat) (q : Option Addr) (n c : Nat) (l : List UInt8) (g : Bool) (RB : Nat → Prop) (w0 : World)
    (hl : l.length = n) (hn : n ≤ 1099511627775) (hnc : n ≤ c) (hq0 : q = none → n = 0 ∧ c = 0) (hb : Lib.BytesIn w0 q n (Lib.numsL l)) (hq : ∀ a, q = some a → 0 < n → RB a.block)
    (hB : Boxed w0 B 22 (.slice q n c)) (hRB : RB B) (hG : Boxed w0 Bg 4 (.bool g)) (hRG : RB Bg) (hRs : ∀ b, RB b → b < w0.heap.size) :
    IterC Tryz.prog 137 #[.pointer (some ⟨B, 0, none⟩), .pointer (some ⟨Bg, 0, none⟩)] RowArg (upX g l) RB w0 := by
  intro l' J Jx W hW hJ hJx hY h0
  refine (callsIn_wide (n := 1)).1 ?_
  refine callsIn_of_wp Tryz.func137 rfl trivial ?_ rfl
  simp only [Tryz.ntmps137, List.size_toArray, List.length_cons, List.length_nil, Nat.reduceAdd, Nat.reduceSub, Array.replicate_succ, Array.replicate_zero, List.push_toArray, List.append_toArray, List.nil_append, List.cons_append]
  have bB := (hW.boxed hB hRB).cell
  have hbW := bytes_keep hb hW hq
  have hll := Lib.hid hl
  gi_wp2
  gi_loopw [4, 5] (fun r m wr => Keep RB W wr ∧ ∃ pre : List (List UInt8), ∃ Q : Nat → Prop, J pre Q wr ∧ (∀ b, Q b → b < wr.heap.size) ∧
    ((m = .bool false ∧ Hid (upX g l = pre)) ∨
      (m = .bool true ∧ ∃ (qr : Option Addr) (nr cr : Nat) (lr : List UInt8), r = .slice qr nr cr ∧ Hid (lr.length = nr) ∧ nr ≤ n ∧ nr ≤ cr ∧ (qr = none → nr = 0 ∧ cr = 0) ∧ Lib.BytesIn wr qr nr (Lib.numsL lr) ∧ (∀ a, qr = some a → 0 < nr → RB a.block ∨ Q a.block) ∧ Hid (upX g l = pre ++ upX g lr)))) (fun r m _ => sliceN r + boolN m)
  case atStart =>
    exact ⟨Keep.refl _ _, [], fun _ => False, h0, fun _ h => h.elim, .inr ⟨rfl, q, n, c, l, rfl, hll, Nat.le_refl _, hnc, hq0, hbW, fun a h1 h2 => .inl (hq a h1 h2), rfl⟩⟩
  case round =>
    obtain ⟨hKr, pre, Q, hJr, hQl, ⟨rfl, HX⟩ | ⟨rfl, qr, nr, cr, lr, rfl, HL, hnr, hrc, hr0, hbr, hqr, HX⟩⟩ := hrel
    · clear hY hb hbW
      gi_wp2_with fail
      refine ⟨trivial, ?_⟩
      gi_wp2
      refine ⟨fun _ h => (by cases h), ?_⟩
      gi_wp2
      refine bodyPost_end (results_none rfl _ _ _) rfl ?_
      exact ⟨⟨_, rfl⟩, Q, hQl, .inl (by rw [HX.out]; exact hJr)⟩
    · have con := Clone_any qr nr cr lr wr HL.out (by omega) hbr
      have hgo : ∀ W', Keep RB W W' → W'.cell? ⟨Bg, 0, none⟩ = some (.bool g) := fun W' h => ((hW.trans h).boxed hG hRG).cell
      obtain ⟨r2, HX2⟩ : ∃ r2, Hid (upX g l = pre ++ lr :: r2) := by
        cases g with
        | false => exact ⟨[], Lib.hid (by rw [HX.out, upX_one])⟩
        | true => exact ⟨_, Lib.hid (by rw [HX.out, upX_many])⟩
      have key := fun (w4 : World) (v4 : Value) => yield_row (w4 := w4) (v4 := v4) (n := nr) hJ hY HX2.out hJr hQl
      have hRBl : ∀ b, RB b → b < wr.heap.size := fun b h => Nat.lt_of_lt_of_le (Nat.lt_of_lt_of_le (hRs b h) hW.size) hKr.size
      have hnl := HL.out
      clear hY hb hbW
      gi_wp2_with fail
      refine ⟨trivial, (callsIn_wide.2 con).mono ?_⟩
      rintro e w4 ⟨v4, rfl, hrow4, hbel4⟩
      obtain ⟨fn, tmps, assign, body, hy, hR⟩ := key w4 v4 hbel4 hnl hrow4
      clear key con hrow4
      gi_wp2_with fail
      refine hR.mono ?_
      rintro e W5 ⟨ok, rfl, hkp, Q', hQQ, hQl', hpost⟩
      have hk5 : Keep RB wr W5 := hkp.mono fun b _ h => .inl h
      have hbr5 := bytes_keep hbr hkp (fun a h1 h2 => hqr a h1 h2)
      have cg5 := hgo W5 (hKr.trans hk5)
      clear hR hy hbel4 hkp
      cases ok with
      | false =>
        have hj5 := (hpost.resolve_left (by simp)).2
        clear hpost
        gi_wp2
        refine bodyPost_end (results_none rfl _ _ _) rfl ?_
        exact ⟨⟨_, rfl⟩, Q', hQl', .inr ⟨pre ++ [lr], r2, by rw [HX2.out]; simp, hj5⟩⟩
      | true =>
        have hj5 := (hpost.resolve_right (by simp)).2
        have con2 := At_any qr nr cr lr 46 W5 hnl (by omega) hrc hr0 hbr5
        clear hpost
        gi_wp2_with fail
        refine ⟨trivial, (callsIn_wide.2 con2).mono ?_⟩
        rintro e w6 ⟨v1, v2, rfl, hrow1, hrow2, hbel6⟩
        have hk6 : Keep RB W w6 := (hKr.trans hk5).trans ((Keep.of_below hbel6).mono fun b hb _ => hb)
        have cg6 := hgo w6 hk6
        have hs6 := hbel6.size
        have hq6 : ∀ b, (Q' b ∨ (W5.heap.size ≤ b ∧ b < w6.heap.size)) → b < w6.heap.size := fun b hb => hb.elim (fun h => Nat.lt_of_lt_of_le (hQl' b h) hs6) And.right
        have j6 := hJ _ _ (fun b => Q' b ∨ (W5.heap.size ≤ b ∧ b < w6.heap.size)) _ _ hj5 ((Keep.of_below hbel6).mono fun b hb _ => hb) (fun b hb => ⟨hb.imp id And.left, hq6 b hb⟩)
        obtain ⟨q2, c2, rfl, _, hnc2, hcm2, hbs2, hblk2⟩ := row_open hrow2
        have hq20 : q2 = none → (atSnd 46 lr).length = 0 ∧ c2 = 0 := fun h => by subst h; exact row_nil hrow2
        have hq2b : ∀ a, q2 = some a → 0 < (atSnd 46 lr).length → RB a.block ∨ (Q' a.block ∨ (W5.heap.size ≤ a.block ∧ a.block < w6.heap.size)) := fun a ha _ => .inr (.inr ⟨(hblk2 a ha).2.1, (hblk2 a ha).1⟩)
        cases hok : atOk 46 lr with
        | false =>
          have HN := Lib.hid (show upX g l = pre ++ [lr] by
            rw [HX.out]
            cases g with
            | false => rfl
            | true => rw [upX_none lr hok])
          have hz : (atSnd 46 lr).length = 0 := by
            have := Lib.indexByte_ge lr 46
            rw [(at_none 46 lr (by unfold atOk at hok; rw [decide_eq_false_iff_not] at hok; omega)).2.1]; rfl
          rw [hz] at *
          clear con2 hrow1 hrow2 hok HX HX2 hbs2 hblk2
          gi_wp2
          go_roundw
          case rel => exact ⟨hk6, _, _, j6, hq6, .inl ⟨rfl, HN⟩⟩
          case measure => simp [sliceN, boolN]
        | true =>
          have hlt := atSnd_len lr hok
          cases g with
          | false =>
            have HN := Lib.hid (show upX false l = pre ++ [lr] by rw [HX.out]; rfl)
            clear con2 hrow1 hrow2 hok HX HX2 hbs2 hblk2
            gi_wp2
            go_roundw
            case rel => exact ⟨hk6, _, _, j6, hq6, .inl ⟨rfl, HN⟩⟩
            case measure => simp [sliceN, boolN]; omega
          | true =>
            have HN := Lib.hid (show upX true l = (pre ++ [lr]) ++ upX true (atSnd 46 lr) by rw [HX.out, upX_found lr hok]; simp)
            clear con2 hrow1 hrow2 hok HX HX2 hblk2
            gi_wp2
            go_roundw
            case rel => exact ⟨hk6, _, _, j6, hq6, .inr ⟨rfl, q2, _, c2, atSnd 46 lr, rfl, rfl, by omega, hnc2, hq20, hbs2, hq2b, HN⟩⟩
            case measure => simp [sliceN, boolN]; omega
end Go.Proofs.YtedglpfdibamdaaGreatDoor.Host
namespace Go.Proofs.YtedglpfdibamdaaGreatDoor.Cls
open Url Org Frm
set_option linter.unusedVariables false
theorem blank_same (b : UInt8) : blankB b = Go.Proofs.YtedglpfdibamdaaGreatDoor.blankB b := by
  unfold blankB Go.Proofs.YtedglpfdibamdaaGreatDoor.blankB
  rw [Bool.eq_iff_iff, Bool.or_eq_true, beq_iff_eq, beq_iff_eq, decide_eq_true_iff, ← UInt8.toNat_inj, ← UInt8.toNat_inj]
  exact Iff.rfl
theorem dropWhile_drop (l : List UInt8) : ∀ f, f ≤ l.length → (∀ j, j < f → blankB (l.getD j 0) = true) → (f < l.length → blankB (l.getD f 0) = false) → l.dropWhile blankB = l.drop f := by
  induction l with
  | nil => intro f _ _ _; simp
  | cons x r ih =>
    intro f hf h1 h2
    cases f with
    | zero =>
      have := h2 (by simp)
      rw [List.getD_cons_zero] at this
      rw [List.dropWhile_cons, if_neg (by rw [this]; simp), List.drop_zero]
    | succ f =>
      have h0 := h1 0 (by omega)
      rw [List.getD_cons_zero] at h0
      rw [List.dropWhile_cons, if_pos h0, List.drop_succ_cons]
      refine ih f (by simp at hf; omega) (fun j hj => ?_) (fun hj => ?_)
      · have := h1 (j + 1) (by omega); rwa [List.getD_cons_succ] at this
      · have := h2 (by simp; omega); rwa [List.getD_cons_succ] at this
theorem getD_reverse (l : List UInt8) (j : Nat) (h : j < l.length) : l.reverse.getD j 0 = l.getD (l.length - 1 - j) 0 := by
  rw [List.getD, List.getElem?_reverse h, List.getD]
theorem trim_sub (l : List UInt8) (f e : Nat) (h : Trims l f e) : trimB l = sub l f e := by
  unfold trimB sub
  rcases h with ⟨rfl, rfl, h⟩ | ⟨h1, h2, h3, h4, h5, h6⟩
  · rw [dropWhile_drop l l.length (Nat.le_refl _) (fun j hj => by rw [blank_same]; exact h j hj) (fun hh => absurd hh (by omega))]
    simp
  · rw [dropWhile_drop l f (by omega) (fun j hj => by rw [blank_same]; exact h3 j hj) (fun _ => by rw [blank_same]; exact h4)]
    have hlen : (l.drop f).length = l.length - f := List.length_drop
    rw [dropWhile_drop (l.drop f).reverse (l.length - e) (by rw [List.length_reverse]; omega) (fun j hj => ?_) (fun hj => ?_)]
    · rw [List.drop_reverse, List.reverse_reverse, hlen]
      congr 1; omega
    · rw [getD_reverse _ _ (by omega), hlen, List.getD, List.getElem?_drop, ← List.getD, blank_same]
      exact h6 _ (by omega) (by omega)
    · rw [List.length_reverse, hlen] at hj
      rw [getD_reverse _ _ (by omega), hlen, List.getD, List.getElem?_drop, ← List.getD, blank_same]
      rw [show f + (l.length - f - 1 - (l.length - e)) = e - 1 by omega]
      exact h5
theorem setS_sort (l : List (List UInt8)) : setS l = sortR l := rises_ext (setS_rises l) (sort_rises l) fun a => (mem_setS l a).trans (mem_sort a l).symm
end Go.Proofs.YtedglpfdibamdaaGreatDoor.Cls
namespace Go.Proofs.YtedglpfdibamdaaGreatDoor.Host
open Go.RowKit Go.Shelf
attribute [local go_sem] Oper.semAt_some
theorem Up1_iter (w0 : World) : IterC Tryz.prog 136 #[] RowArg [] (fun _ => False) w0 := by
  intro l' J Jx W hW hJ hJx hY h0
  refine (callsIn_wide (n := 1)).1 ?_
  refine callsIn_of_wp Tryz.func136 rfl trivial ?_ rfl
  simp only [Tryz.ntmps136, List.size_toArray, List.length_cons, List.length_nil, Nat.reduceAdd, Nat.reduceSub, Array.replicate_succ, Array.replicate_zero, List.push_toArray, List.append_toArray, List.nil_append, List.cons_append]
  gi_wp2
  refine bodyPost_end (results_none rfl _ _ _) rfl ?_
  exact ⟨⟨_, rfl⟩, fun _ => False, fun _ h => h.elim, .inl h0⟩
def UpOut (xs : List (List UInt8)) (w : World) (e : Ending) (w' : World) : Prop :=
  ∃ (gf : Nat) (lb : Array Value) (RB : Nat → Prop), e = .returned (.func (.func gf) #[] lb) ∧ (∀ args w, (callFunc gf args).run Tryz.prog w = .ok (.enter gf args) w) ∧ IterC Tryz.prog gf lb RowArg xs RB w' ∧
    (∀ b, RB b → w.heap.size ≤ b ∧ b < w'.heap.size) ∧ (∀ w'' : World, (binOp .eql 88 (.func (.func gf) #[] lb) .nilFunc).run Tryz.prog w'' = .ok (.bool false) w'') ∧ Below w.heap.size w w'
theorem out_nothing {xs : List (List UInt8)} {w w' : World} (h : xs = []) (hb : Below w.heap.size w w') : UpOut xs w (.returned (.func (.func 136) #[] #[])) w' := by
  subst h
  exact ⟨_, _, _, rfl, enters_of Tryz.func136 (by kernel_rfl) rfl, Up1_iter w', fun _ h => h.elim, fun _ => by kernel_rfl, hb⟩
theorem bytes_eq (xs ys : List UInt8) : (Lib.bytesOf (Lib.numsL xs) == Lib.bytesOf (Lib.numsL ys)) = decide (xs = ys) := by
  rw [Lib.bytesOf_numsL, Lib.bytesOf_numsL, Bool.eq_iff_iff, beq_iff_eq, decide_eq_true_iff]
theorem can_at {l : List UInt8} {n : Int} {w w' : World} {e : Ending} (h : CanOut l w e w') (hn : parseE l = n) (h0 : n ≠ 0) :
    ∃ q c, e = .returned (.tuple #[.slice q 0 c, .int .i64 n]) ∧ (q = none → c = 0) ∧ Below w.heap.size w w' := by
  subst hn
  obtain ⟨v, rfl, hr, hb⟩ := h
  have hc : canL l = [] := by unfold canL; rw [if_neg h0]
  rw [hc] at hr
  have hr' : w'.ownsRow w.heap.size 5 1 v 0 ((Lib.numsL []).map (Value.int .u8)) := hr
  obtain ⟨q, c, rfl, _⟩ := row_open hr'
  exact ⟨q, c, rfl, fun h => by subst h; exact (row_nil hr').2, hb⟩
theorem can_at0 {l : List UInt8} {n : Nat} {w w' : World} {e : Ending} (h : CanOut l w e w') (hn : parseE l = 0) (hl : l.length = n) :
    ∃ q c, e = .returned (.tuple #[.slice q n c, .int .i64 0]) ∧ (q = none → n = 0 ∧ c = 0) ∧ n ≤ c ∧ w'.ownsRow w.heap.size 5 1 (.slice q n c) n ((Lib.numsL (lowL l)).map (Value.int .u8)) ∧ Below w.heap.size w w' := by
  obtain ⟨v, rfl, hr, hb⟩ := h
  have hc : canL l = lowL l := by unfold canL; rw [if_pos hn]; rfl
  rw [hc, lowL_length, hl] at hr
  obtain ⟨q, c, rfl, _, h1, _⟩ := row_open hr
  exact ⟨q, c, by rw [hn], fun h => by subst h; exact row_nil hr, h1, hr, hb⟩
set_option maxRecDepth 100000 in
set_option maxHeartbeats 4000000 in
theorem Up_any (q : Option Addr) (n c : Nat) (l : List UInt8) (w : World) (hl : l.length = n) (hn : n ≤ 1099511627775) (h : Lib.BytesIn w q n (Lib.numsL l)) :
    Calls Tryz.prog 98 #[.slice q n c] w fun e w' => UpOut (upL l) w e w' := by
  have con := Parse_any q n c l w hl (by omega) h
  have HL := Lib.hid hl
  by_cases h0 : parseE l = 0
  · have HP := Lib.hid h0
    have U1 := Lib.hid (fun hlow => upX_up l h0 hlow)
    have hq := bytes_lt h
    by_cases hlow : lowL l = l
    · have HU := Lib.hid (U1.out hlow)
      have HW := Lib.hid hlow
      have con2 := fun (p1 : Option Addr) c1 W hb1 hb2 => Tryz.bytes_Equal_all p1 q n c1 n c (Lib.numsL l) (Lib.numsL l) W (by rw [Lib.numsL_length, hl]) (by rw [Lib.numsL_length, hl]) hb1 hb2
      rw [bytes_eq, decide_eq_true rfl] at con2
      clear hl h0 hlow U1
      go_enter Tryz.func98, Tryz.ntmps98
      go_wp2_with fail
      refine con.mono ?_
      intro e w2 ho
      obtain ⟨q2, c2, rfl, hq2, hc2, hrow2, hb2⟩ := can_at0 ho HP.out HL.out
      rw [HW.out] at hrow2
      have hbx := (row_open hrow2)
      obtain ⟨_, _, hcl, _, _, _, hbs2, hblk2⟩ := hbx
      cases hcl
      have bx := Boxed.new w2 22 (.slice q2 n c2)
      have hb3 := hb2.alloc hb2.size (.cells #[.slice q2 n c2] 22)
      have hbs3 := bytes_keep hbs2 (Keep.alloc (fun _ => True) w2 (.cells #[.slice q2 n c2] 22)) (fun _ _ _ => trivial)
      have hbs3' := bytes_keep h (Keep.of_below hb3) (fun a h1 h2 => hq a h1 h2)
      have hrow3 := hrow2.alloc (.cells #[.slice q2 n c2] 22)
      have con3 := con2 q2 c2 _ hbs3 hbs3'
      obtain ⟨W3, hW3⟩ : ∃ W3, w2.alloc (.cells #[.slice q2 n c2] 22) = W3 := ⟨_, rfl⟩
      rw [hW3] at bx hb3 hbs3 hbs3' hrow3 con3
      have HW3 := Lib.hid hW3
      have con4 := Address_any q2 n c2 l W3 HL.out (by omega) hbs3
      have cx := bx.cell
      have hs3 := hb3.size
      have hs2 := hb2.size
      have hs23 : W3.heap.size = w2.heap.size + 1 := by rw [← hW3]; simp
      clear ho con con2 hrow2 hbs2 hb2 h hblk2 hbs3' hW3
      go_wp2_with fail
      rw [HW3.out]
      refine con3.mono ?_
      rintro e w' ⟨rfl, hw⟩
      subst hw
      clear con3
      go_wp2_with fail
      refine con4.mono ?_
      rintro e w4 ⟨rfl, hb4⟩
      have k4 : ∀ S : Nat → Prop, (∀ b, S b → b < w'.heap.size) → Keep S w' w4 := fun S hS => (Keep.of_below hb4).mono fun b _ h => hS b h
      have bx4 := (Keep.of_below hb4).boxed bx bx.lt
      have hrow4 := (Keep.of_below hb4).row hrow3 (fun b hb => (hrow3.lt b hb).2)
      have hb04 := hb3.trans (hb4.mono hs3)
      have hs4 := hb4.size
      generalize addressB l = ad at *
      clear con4 hrow3 hbs3 bx cx k4
      go_wp2
      go_ret
      have bg := Boxed.new w4 4 (.bool (!ad))
      have bx5 := bx4.alloc (.cells #[.bool (!ad)] 4)
      have hrow5 := hrow4.alloc (.cells #[.bool (!ad)] 4)
      have hb5 := hb04.alloc hb04.size (.cells #[.bool (!ad)] 4)
      obtain ⟨_, _, hcl, _, _, _, hbs5, hblk5⟩ := row_open hrow5
      cases hcl
      have hrl := fun b hb => hrow5.lt b hb
      have hs5 : (w4.alloc (.cells #[.bool (!ad)] 4)).heap.size = w4.heap.size + 1 := by simp
      generalize w4.alloc (.cells #[.bool (!ad)] 4) = W5 at *
      have hRl : ∀ b, (b = w2.heap.size ∨ b = w4.heap.size ∨ (Value.slice q2 n c2).ownBlock = some b) → w.heap.size ≤ b ∧ b < W5.heap.size := fun b hb => by
        rcases hb with rfl | rfl | hb
        · exact ⟨hs2, bx5.lt⟩
        · exact ⟨by omega, bg.lt⟩
        · exact hrl b hb
      refine ⟨137, _, fun b => b = w2.heap.size ∨ b = w4.heap.size ∨ (Value.slice q2 n c2).ownBlock = some b, rfl, enters_of Tryz.func137 (by kernel_rfl) rfl, ?_, hRl, fun _ => by kernel_rfl, hb5⟩
      rw [HU.out]
      exact Up2_iter w2.heap.size w4.heap.size q2 n c2 l (!ad) _ W5 HL.out hn hc2 hq2 hbs5 (fun a ha _ => .inr (.inr (hblk5 a ha).2.2)) bx5 (.inl rfl) bg (.inr (.inl rfl)) (fun b hb => (hRl b hb).2)
    · have HU := Lib.hid (show upL l = [] by unfold upL; rw [if_neg (fun h => hlow h.2)])
      have con2 := fun (p1 : Option Addr) c1 W hb1 hb2 => Tryz.bytes_Equal_all p1 q n c1 n c (Lib.numsL (lowL l)) (Lib.numsL l) W (by rw [Lib.numsL_length, lowL_length, hl]) (by rw [Lib.numsL_length, hl]) hb1 hb2
      rw [bytes_eq, decide_eq_false hlow] at con2
      clear hl h0 hlow U1
      go_enter Tryz.func98, Tryz.ntmps98
      go_wp2_with fail
      refine con.mono ?_
      intro e w2 ho
      obtain ⟨q2, c2, rfl, hq2, hc2, hrow2, hb2⟩ := can_at0 ho HP.out HL.out
      obtain ⟨_, _, hcl, _, _, _, hbs2, hblk2⟩ := row_open hrow2
      cases hcl
      have bx := Boxed.new w2 22 (.slice q2 n c2)
      have hb3 := hb2.alloc hb2.size (.cells #[.slice q2 n c2] 22)
      have hbs3 := bytes_keep hbs2 (Keep.alloc (fun _ => True) w2 (.cells #[.slice q2 n c2] 22)) (fun _ _ _ => trivial)
      have hbs3' := bytes_keep h (Keep.of_below hb3) (fun a h1 h2 => hq a h1 h2)
      have con3 := con2 q2 c2 _ hbs3 hbs3'
      clear ho con con2 hrow2 hbs2 hb2 h hblk2 hbs3' hbs3
      go_wp2_with fail
      refine con3.mono ?_
      rintro e w' ⟨rfl, hw⟩
      subst hw
      clear con3
      go_wp2
      go_ret
      exact out_nothing HU.out hb3
  · have H := Lib.hid (show upL l = [] by unfold upL; rw [if_neg (fun h => h0 h.1)])
    obtain ⟨pe, hpe⟩ : ∃ pe, parseE l = pe := ⟨_, rfl⟩
    rw [hpe] at h0
    have HP := Lib.hid hpe
    have e1 : (pe == 0) = false := by rw [beq_eq_false_iff_ne]; exact h0
    have e2 : (pe != 0) = true := by unfold bne; rw [e1]; rfl
    have H0 := Lib.hid h0
    clear hl h hpe h0
    go_enter Tryz.func98, Tryz.ntmps98
    go_wp2_with fail
    refine con.mono ?_
    intro e w2 ho
    obtain ⟨q2, c2, rfl, _, hb2⟩ := can_at ho HP.out H0.out
    clear ho con
    go_wp2
    go_ret
    exact out_nothing H.out (hb2.alloc hb2.size _)
end Go.Proofs.YtedglpfdibamdaaGreatDoor.Host
namespace Go.Proofs.YtedglpfdibamdaaGreatDoor.Hdr
open Go.RowKit Go.Shelf Url
attribute [local go_sem] Oper.semAt_some
set_option linter.unusedVariables false
theorem yield_argG {P : Program} {l' : Nat} {β : Type} {Arg : β → Array Value → (Nat → Prop) → World → Prop} {J Jx : List β → (Nat → Prop) → World → Prop} {ys : List β} {RB : Nat → Prop} (hJ : Abide J) (hY : Rounds P l' Arg ys RB J Jx)
    {pre : List β} {y : β} {rest : List β} (hys : ys = pre ++ y :: rest) {Q G : Nat → Prop} {W2 w4 : World} {args : Array Value} (hj : J pre Q W2) (hQ : ∀ b, Q b → b < W2.heap.size)
    (hb : Below W2.heap.size W2 w4) (hG : ∀ b, G b → W2.heap.size ≤ b ∧ b < w4.heap.size) (hA : Arg y args G w4) :
    YieldAt Fence.wide 0 P l' args w4 fun e W' => ∃ ok : Bool, e = .returned (.bool ok) ∧ RowPost J Jx (pre ++ [y]) RB Q W2 ok W' := by
  have hs := hb.size
  refine (hY pre y rest (fun b => Q b ∨ (W2.heap.size ≤ b ∧ b < w4.heap.size)) G args w4 hys ?_ ?_ hA (fun b h => .inr (hG b h))).mono ?_
  · exact hJ _ _ _ _ _ hj ((Keep.of_below hb).mono fun b h _ => h) fun b h => ⟨h.imp id And.left, h.elim (fun h => Nat.lt_of_lt_of_le (hQ b h) hs) And.right⟩
  · exact fun b h => h.elim (fun h => Nat.lt_of_lt_of_le (hQ b h) hs) And.right
  · rintro e W' ⟨hk, h⟩
    have hkk : Keep (fun b => RB b ∨ Q b) W2 W' := ((Keep.of_below hb).mono fun b h _ => h).trans (hk.mono fun b hlt h => h.imp id fun h => ⟨.inl h, fun hg => by have := hG b hg; have := hQ b h; omega⟩)
    have hq1 : ∀ b, Q b → (Q b ∨ (W2.heap.size ≤ b ∧ b < w4.heap.size)) ∧ ¬ G b := fun b h => ⟨.inl h, fun hg => by have := hG b hg; have := hQ b h; omega⟩
    have hq2 : ∀ b, ((Q b ∨ (W2.heap.size ≤ b ∧ b < w4.heap.size)) ∧ ¬ G b) → b < W'.heap.size := fun b h => Nat.lt_of_lt_of_le (h.1.elim (fun h => Nat.lt_of_lt_of_le (hQ b h) hs) And.right) hk.size
    rcases h with ⟨rfl, h⟩ | ⟨rfl, h⟩
    · exact ⟨true, rfl, hkk, _, hq1, hq2, .inl ⟨rfl, h⟩⟩
    · exact ⟨false, rfl, hkk, _, hq1, hq2, .inr ⟨rfl, h⟩⟩
def FB2 (B : Nat) (cs : Array Value) (X : World) : Prop := X.heap[B]? = some (.cells cs 96 (0, 0))
theorem FB2.cell {B : Nat} {cs : Array Value} {X : World} (h : FB2 B cs X) (i : Nat) (x : Value) (hx : cs[i]? = some x) : X.cell? ⟨B, i, none⟩ = some x := by
  simp only [World.cell?, show X.heap[B]? = _ from h]; exact hx
end Go.Proofs.YtedglpfdibamdaaGreatDoor.Hdr
namespace Go.Proofs.YtedglpfdibamdaaGreatDoor.Frm
open Cls
set_option linter.unusedVariables false
def oneB (l : List (List (List UInt8))) (c : List (List UInt8)) : Bool := l.any fun d => subB d c
theorem one_iff (l : List (List (List UInt8))) (c : List (List UInt8)) : oneB l c = true ↔ ∃ d ∈ l, ∀ p ∈ d, p ∈ c := by
  unfold oneB
  rw [List.any_eq_true]
  exact ⟨fun ⟨d, h, k⟩ => ⟨d, h, (subB_iff d c).1 k⟩, fun ⟨d, h, k⟩ => ⟨d, h, (subB_iff d c).2 k⟩⟩
theorem one_no (l : List (List (List UInt8))) (c : List (List UInt8)) (h : oneB l c = false) : ∀ d ∈ l, ¬ ∀ p ∈ d, p ∈ c := fun d hd k => by
  have := (one_iff l c).2 ⟨d, hd, k⟩
  rw [h] at this; cases this
theorem imp_all (f g : List (List (List UInt8))) : impB f g = g.all (oneB f) := rfl
structure Left (left done rest : List (List (List UInt8))) : Prop where
  nodup : left.Nodup
  mem : ∀ x ∈ left, x ∈ done
  anti : ∀ x ∈ left, ∀ y ∈ left, (∀ p ∈ x, p ∈ y) → x = y
  cover : ∀ c ∈ done, ∃ x ∈ left, ∀ p ∈ x, p ∈ c
  rise : ∀ c ∈ done ++ rest, Rises c
  short : ∀ x ∈ done, ∀ y ∈ rest, x.length ≤ y.length
theorem len_sub (x y : List (List UInt8)) (hx : Rises x) (hy : Rises y) (h : ∀ p ∈ x, p ∈ y) (hl : y.length ≤ x.length) : x = y := by
  have hxd := rises_nodup x hx
  refine rises_ext hx hy fun a => ⟨h a, fun ha => ?_⟩
  refine Decidable.byContradiction fun hn => ?_
  have h1 : x.length ≤ (y.erase a).length := hxd.length_le_of_subset fun q hq => (List.mem_erase_of_ne (fun e => hn (by rw [← e]; exact hq))).2 (h q hq)
  rw [List.length_erase_of_mem ha] at h1
  have := List.length_pos_of_mem ha
  omega
theorem Left.start (l : List (List (List UInt8))) (h : ∀ c ∈ l, Rises c) : Left [] [] l :=
  ⟨List.nodup_nil, fun x hx => (by cases hx), fun x hx => (by cases hx), fun c hc => (by cases hc), h, fun x hx => (by cases hx)⟩
theorem Left.skip {left done rest : List (List (List UInt8))} {c : List (List UInt8)} (h : Left left done (c :: rest)) (hc : oneB left c = true) (hs : ∀ y ∈ rest, c.length ≤ y.length) : Left left (done ++ [c]) rest := by
  refine ⟨h.nodup, fun x hx => List.mem_append.2 (.inl (h.mem x hx)), h.anti, fun d hd => ?_, by simpa using h.rise, fun x hx y hy => ?_⟩
  · rcases List.mem_append.1 hd with hd | hd
    · exact h.cover d hd
    · rw [List.mem_singleton.1 hd]
      obtain ⟨x, hx, k⟩ := (one_iff left c).1 hc
      exact ⟨x, hx, k⟩
  · rcases List.mem_append.1 hx with hx | hx
    · exact h.short x hx y (by simp [hy])
    · rw [List.mem_singleton.1 hx]; exact hs y hy
theorem Left.take {left done rest : List (List (List UInt8))} {c : List (List UInt8)} (h : Left left done (c :: rest)) (hc : oneB left c = false) (hs : ∀ y ∈ rest, c.length ≤ y.length) : Left (left ++ [c]) (done ++ [c]) rest := by
  have hno := one_no left c hc
  have hcr : Rises c := h.rise c (by simp)
  have hne : ∀ x ∈ left, x ≠ c := fun x hx e => hno x hx (by rw [e]; exact fun p hp => hp)
  have hback : ∀ x ∈ left, ¬ ∀ p ∈ c, p ∈ x := fun x hx k =>
    hne x hx (len_sub c x hcr (h.rise x (List.mem_append.2 (.inl (h.mem x hx)))) k (h.short x (h.mem x hx) c (by simp))).symm
  refine ⟨?_, fun x hx => ?_, fun x hx y hy k => ?_, fun d hd => ?_, by simpa using h.rise, fun x hx y hy => ?_⟩
  · rw [List.nodup_append]
    exact ⟨h.nodup, by simp, fun a ha b hb => by rw [List.mem_singleton.1 hb]; exact hne a ha⟩
  · rcases List.mem_append.1 hx with hx | hx
    · exact List.mem_append.2 (.inl (h.mem x hx))
    · exact List.mem_append.2 (.inr hx)
  · rcases List.mem_append.1 hx with hx | hx
    · rcases List.mem_append.1 hy with hy | hy
      · exact h.anti x hx y hy k
      · rw [List.mem_singleton.1 hy] at k ⊢
        exact absurd k (hno x hx)
    · rw [List.mem_singleton.1 hx] at k ⊢
      rcases List.mem_append.1 hy with hy | hy
      · exact absurd k (hback y hy)
      · rw [List.mem_singleton.1 hy]
  · rcases List.mem_append.1 hd with hd | hd
    · obtain ⟨x, hx, k⟩ := h.cover d hd
      exact ⟨x, List.mem_append.2 (.inl hx), k⟩
    · rw [List.mem_singleton.1 hd]
      exact ⟨c, by simp, fun p hp => hp⟩
  · rcases List.mem_append.1 hx with hx | hx
    · exact h.short x hx y (by simp [hy])
    · rw [List.mem_singleton.1 hx]; exact hs y hy
theorem Left.red {left done rest : List (List (List UInt8))} (h : Left left done rest) : ∀ x ∈ left, x ∈ redL (done ++ rest) := fun x hx => by
  rw [mem_red]
  refine ⟨List.mem_append.2 (.inl (h.mem x hx)), fun y hy k => ?_⟩
  rcases List.mem_append.1 hy with hd | hd
  · obtain ⟨z, hz, kz⟩ := h.cover y hd
    have e := h.anti z hz x hx fun p hp => k p (kz p hp)
    subst e
    exact rises_ext (h.rise y hy) (h.rise z (List.mem_append.2 (.inl (h.mem z hz)))) fun a => ⟨k a, kz a⟩
  · exact len_sub y x (h.rise y hy) (h.rise x (List.mem_append.2 (.inl (h.mem x hx)))) k (h.short x (h.mem x hx) y hd)
theorem Left.full {left done : List (List (List UInt8))} (h : Left left done []) : ∀ x, x ∈ left ↔ x ∈ redL done := fun x => by
  constructor
  · intro hx
    have := h.red x hx
    rwa [List.append_nil] at this
  · intro hx
    obtain ⟨h1, h2⟩ := (mem_red done x).1 hx
    obtain ⟨z, hz, k⟩ := h.cover x h1
    rw [← h2 z (h.mem z hz) k]
    exact hz
theorem nodup_sort (l : List (List (List UInt8))) (h : l.Nodup) : (sortR l).length = l.length := by
  have h1 : (sortR l).length ≤ l.length := (rises_nodup _ (sort_rises l)).length_le_of_subset fun x hx => (mem_sort x l).1 hx
  have h2 : l.length ≤ (sortR l).length := h.length_le_of_subset fun x hx => (mem_sort x l).2 hx
  omega
theorem red_perm (l m : List (List (List UInt8))) (h : m.Perm l) : redL m = redL l :=
  rises_ext (sort_rises _) (sort_rises _) fun a => by
    show a ∈ redL m ↔ a ∈ redL l
    rw [mem_red, mem_red]
    exact ⟨fun k => ⟨h.mem_iff.1 k.1, fun y hy => k.2 y (h.mem_iff.2 hy)⟩, fun k => ⟨h.mem_iff.2 k.1, fun y hy => k.2 y (h.mem_iff.1 hy)⟩⟩
theorem left_done (l m left : List (List (List UInt8))) (hp : m.Perm l) (h : Left left m []) : sortR left = redL l ∧ (redL l).length = left.length := by
  have e : sortR left = redL l := by
    rw [← red_perm l m hp]
    exact rises_ext (sort_rises _) (sort_rises _) fun a => (mem_sort a left).trans (h.full a)
  exact ⟨e, by rw [← e]; exact nodup_sort left h.nodup⟩
theorem ofF_left (l m left : List (List (List UInt8))) (hp : m.Perm l) (h : Left left m []) (hl : left.length ≤ 16) : ofF l = .inr (sortR left) := by
  obtain ⟨h1, h2⟩ := left_done l m left hp h
  unfold ofF
  rw [if_pos (by omega), h1]
theorem ofF_many (l m left done rest : List (List (List UInt8))) (hp : m.Perm l) (e : m = done ++ rest) (h : Left left done rest) (hl : 16 < left.length) : ofF l = .inl 3 := by
  have h1 : left.length ≤ (redL m).length := h.nodup.length_le_of_subset fun x hx => by rw [e]; exact h.red x hx
  rw [red_perm l m hp] at h1
  unfold ofF
  rw [if_neg (by omega)]
theorem sorted_is (l r : List (List (List UInt8))) (hp : r.Perm l) (hd : l.Nodup) (hs : ∀ i j : Nat, ∀ x y, i < j → r[i]? = some x → r[j]? = some y → ¬ y < x) : r = sortR l := by
  have hr : Rises r := by
    refine List.pairwise_iff_getElem.2 fun i j hi hj hij => ?_
    have hn : r.Nodup := hp.nodup_iff.2 hd
    have h1 := hs i j _ _ hij (List.getElem?_eq_getElem hi) (List.getElem?_eq_getElem hj)
    rcases Lin.tri r[i] r[j] with h | h | h
    · exact h
    · exact absurd h (List.pairwise_iff_getElem.1 hn i j hi hj hij)
    · exact absurd h h1
  exact rises_ext hr (sort_rises l) fun a => (hp.mem_iff).trans (mem_sort a l).symm
end Go.Proofs.YtedglpfdibamdaaGreatDoor.Frm
namespace Go.Proofs.YtedglpfdibamdaaGreatDoor.Host
open Go.RowKit Go.Shelf
attribute [local go_sem] Oper.semAt_some
def WinE (w : World) (v : Value) (d : List UInt8) (pre : List (List UInt8)) (W : World) : Prop :=
  Boxed W w.heap.size 22 v ∧ Boxed W (w.heap.size + 1) 4 (.bool false) ∧ pre.contains d = false ∧ Below w.heap.size w W
def WinX (w : World) (d : List UInt8) (xs : List (List UInt8)) (_ : List (List UInt8)) (W : World) : Prop :=
  Boxed W (w.heap.size + 1) 4 (.bool true) ∧ xs.contains d = true ∧ Below w.heap.size w W
set_option maxRecDepth 100000 in
set_option maxHeartbeats 4000000 in
theorem Within_any (q qd : Option Addr) (n c m cd : Nat) (l d : List UInt8) (w : World) (hl : l.length = n) (hd : d.length = m) (hn : n ≤ 1099511627775) (h : Lib.BytesIn w q n (Lib.numsL l)) (h' : Lib.BytesIn w qd m (Lib.numsL d)) :
    Calls Tryz.prog 63 #[.slice q n c, .slice qd m cd] w fun e w' => e = .returned (.bool (withinB l d)) ∧ Below w.heap.size w w' := by
  refine (callsIn_wide (n := 1)).1 ?_
  refine callsIn_of_wp_marks Tryz.func63 rfl trivial ?_ rfl
  simp only [Tryz.ntmps63, List.size_toArray, List.length_cons, List.length_nil, Nat.reduceAdd, Nat.reduceSub, Array.replicate_succ, Array.replicate_zero, List.push_toArray, List.append_toArray, List.nil_append, List.cons_append]
  obtain ⟨W0, hW0⟩ : ∃ W0, (w.alloc (.cells #[.slice qd m cd] 22)).alloc (.cells #[.bool false] 4) = W0 := ⟨_, rfl⟩
  have b0 : Boxed W0 w.heap.size 22 (.slice qd m cd) := hW0 ▸ (Boxed.new w _ _).alloc _
  have b1 : Boxed W0 (w.heap.size + 1) 4 (.bool false) := by
    have := Boxed.new (w.alloc (.cells #[.slice qd m cd] 22)) 4 (.bool false)
    rw [World.size_alloc] at this
    exact hW0 ▸ this
  have hB0 : Below w.heap.size w W0 := hW0 ▸ ((Below.refl _ w).alloc (Nat.le_refl _) _).alloc (by simp) _
  have hs0 : W0.heap.size = w.heap.size + 2 := by rw [← hW0]; simp
  have hb0 := bytes_keep h (Keep.of_below hB0) (fun a h1 h2 => bytes_lt h a h1 h2)
  have con := Up_any q n c l W0 hl hn hb0
  have HW0 := Lib.hid hW0
  have hqd := bytes_lt h'
  have HWI := Lib.hid (show withinB l d = (upL l).contains d from rfl)
  clear h hW0 hb0 hl
  generalize upL l = xs at *
  generalize withinB l d = wb at *
  gi_wp2_with fail
  rw [HW0.out]
  refine ⟨trivial, (callsIn_wide.2 con).mono ?_⟩
  rintro e W1 ⟨gf, lb, RB, rfl, eg, hit, hRl, hnf, hbel⟩
  rw [hs0] at hRl
  replace b0 := (Keep.of_below hbel).boxed b0 (by omega)
  replace b1 := (Keep.of_below hbel).boxed b1 (by omega)
  have hB1 := hB0.trans (hbel.mono hB0.size)
  have hs1 := hbel.size
  rw [hs0] at hs1
  clear con hbel HW0 hB0 hs0
  gi_wp2
  refine rf_law (gf := gf) (lb := lb) rfl eg
    hit (Keep.refl _ _) (fun b hb => (hRl b hb).2) (fun x args G W h => by obtain ⟨v, rfl, _⟩ := h; rfl)
    (EvI W1 (WinE w (.slice qd m cd) d)) (EvX W1 (WinX w d xs)) (EvI_abide ?e1) (EvX_abide ?e2)
    ⟨(fun _ h => h.elim), Keep.refl _ _, b0, b1, rfl, hB1⟩ ?round ?done ?stop
  case e1 =>
    rintro pre A B hk ⟨h1, h2, h3, h4⟩
    exact ⟨hk.boxed h1 (by omega), hk.boxed h2 (by omega), h3, h4.trans ((hk.mono fun b _ hb => by omega).below h4.size)⟩
  case e2 =>
    rintro pre A B hk ⟨h1, h3, h4⟩
    exact ⟨hk.boxed h1 (by omega), h3, h4.trans ((hk.mono fun b _ hb => by omega).below h4.size)⟩
  case round =>
    rintro ll pre x rest Pv G args Wr hll hxs ⟨hge, hK1, hE1, hE2, hE3, hE4⟩ hPl hGl hPb hGP ⟨p, rfl, hp, rfl⟩
    have hxm : x ∈ xs := by rw [hxs]; simp
    obtain ⟨qx, cx, rfl, _, hnc, hcm, hbs, hblk⟩ := row_open hp
    clear hxs
    gi_wp2
    refine ⟨Keep.refl _ _, fun W2 hk2 hs2 r hr => ?_⟩
    have k2 : Keep (fun b => b < W1.heap.size) Wr W2 := hk2.mono fun b _ hb h => by omega
    have f1 := k2.boxed hE1 (by omega)
    have f2 := k2.boxed hE2 (by omega)
    have gx : Keep (fun b => (Value.slice qx x.length cx).ownBlock = some b) Wr W2 := hk2.mono fun b _ hb h => hGl (h ▸ hb)
    have hbs2 : Lib.BytesIn W2 qx x.length (Lib.numsL x) := bytes_keep hbs gx (fun a ha _ => (hblk a ha).2.2)
    have hs2' := hE4.size
    have hW2 := hE4.trans ((k2.mono fun b _ h => by omega).below hE4.size)
    have hbd2 := bytes_keep h' (Keep.of_below hW2) (fun a h1 h2 => hqd a h1 h2)
    have con2 := Tryz.bytes_Equal_all qx qd x.length cx m cd (Lib.numsL x) (Lib.numsL d) W2 (by rw [Lib.numsL_length]) (by rw [Lib.numsL_length, hd]) hbs2 hbd2
    rw [bytes_eq] at con2
    have c1 := f1.cell
    have c2 := f2.cell
    have z2 := f2.frozen
    have hK2 := hK1.trans (hk2.mono fun _ _ h => h.elim)
    clear hbs hp hbs2 hblk hk2 gx hbd2
    by_cases hxd : x = d
    · have HB := Lib.hid (show xs.contains d = true by rw [List.contains_iff_mem, ← hxd]; exact hxm)
      rw [decide_eq_true hxd] at con2
      clear hxd hxm
      gi_wp2_with fail
      refine ⟨trivial, rfl, (CallsIn.inRound ll (callsIn_wide.2 con2)).mono ?_⟩
      rintro e w' ⟨rfl, hw⟩
      subst hw
      clear con2
      gi_wp2
      refine ⟨Keep.setCell _ _ _ (fun h => ?_), rfl, fun b hb => hge b hb.1, hK2.trans (Keep.setCell _ _ _ (fun h => h)), f2.set _, HB.out, hW2.setCell (p := ⟨w.heap.size + 1, 0, none⟩) (Nat.le_succ _) _⟩
      rcases h with h | h
      · have := (hRl _ h).1; simp only at this; omega
      · have := hge _ h.1; simp only at this; omega
    · have HB := Lib.hid (show (pre ++ [x]).contains d = false by
        have hxd' : ¬ d = x := fun h => hxd h.symm
        rw [Bool.eq_false_iff] at hE3 ⊢
        intro hc
        rw [List.contains_iff_mem, List.mem_append] at hc
        rcases hc with hc | hc
        · exact hE3 (List.contains_iff_mem.2 hc)
        · exact hxd' (by simpa using hc))
      rw [decide_eq_false hxd] at con2
      clear hxd hxm
      gi_wp2_with fail
      refine ⟨trivial, rfl, (CallsIn.inRound ll (callsIn_wide.2 con2)).mono ?_⟩
      rintro e w' ⟨rfl, hw⟩
      subst hw
      clear con2
      gi_wp2
      exact ⟨Keep.refl _ _, fun b hb => hge b hb.1, hK2, f1, f2, HB.out, hW2⟩
  case done =>
    rintro D Pv Wd hD hPD hPl ⟨hge, hK1, hE1, hE2, hE3, hE4⟩ hK
    have c2 := hE2.cell
    have z2 := hE2.frozen
    gi_wp2
    have hKd : (Wd.setCell ⟨w.heap.size + 1, 0, none⟩ (.bool false)).heap[D]? = some (.deferred (some [])) := (Keep.setCell (S := fun b => b = D) Wd ⟨w.heap.size + 1, 0, none⟩ _ (show ¬ w.heap.size + 1 = D by omega)).heap rfl hK
    have kp : ∀ (S : Nat → Prop) (W : World), ¬ S D → Keep S W (W.putObj D (.deferred none)) := fun S W h => Keep.putObj _ _ _ h
    refine ⟨by simp, .inl ⟨_, _, rfl, run_takeDeferred hKd, ?_⟩⟩
    refine ⟨_, results_bool rfl _ _ (w.heap.size + 1) _ rfl ((kp (fun b => b = w.heap.size + 1) _ (by omega)).boxed (hE2.set _) rfl).cell, ?_, ?_⟩
    · rw [HWI.out, hE3]
    · have h5 := hE4.setCell (p := ⟨w.heap.size + 1, 0, none⟩) (Nat.le_succ _) (.bool false)
      exact h5.trans ((kp (fun b => b < w.heap.size) _ (by omega)).below h5.size)
  case stop =>
    rintro D cc pre rest Pv Wd hD hPD hPl hxs ⟨rfl, hge, hK1, hE1, hE3, hE4⟩ hK
    have kp : ∀ (S : Nat → Prop) (W : World), ¬ S D → Keep S W (W.putObj D (.deferred none)) := fun S W h => Keep.putObj _ _ _ h
    clear hxs
    gi_wp2
    refine ⟨by simp, .inl ⟨_, _, rfl, run_takeDeferred hK, ?_⟩⟩
    refine ⟨_, results_bool rfl _ _ (w.heap.size + 1) _ rfl ((kp (fun b => b = w.heap.size + 1) _ (by omega)).boxed hE1 rfl).cell, ?_, ?_⟩
    · rw [HWI.out, hE3]
    · exact hE4.trans ((kp (fun b => b < w.heap.size) _ (by omega)).below hE4.size)
end Go.Proofs.YtedglpfdibamdaaGreatDoor.Host
namespace Go.Proofs.YtedglpfdibamdaaGreatDoor.Hdr
open Go.RowKit Go.Shelf Url
attribute [local go_sem] Oper.semAt_some
set_option linter.unusedVariables false
theorem drop_getElemT {α : Type} (l : List α) (k : Nat) (h : k < l.length) : ∃ x, l[k]? = some x ∧ l.drop k = x :: l.drop (k + 1) :=
  ⟨l[k], List.getElem?_eq_getElem h, List.drop_eq_getElem_cons h⟩
def TellsFrom {α : Type} (N : Nat) (Arg : α → Array Value → (Nat → Prop) → World → Prop) (xs : List α) (w : World) (e : Ending) (w' : World) : Prop :=
  ∃ (gf : Nat) (lb : Array Value) (RB : Nat → Prop), e = .returned (.func (.func gf) #[] lb) ∧ (∀ args w, (callFunc gf args).run Tryz.prog w = .ok (.enter gf args) w) ∧ IterC Tryz.prog gf lb Arg xs RB w' ∧ (∀ b, RB b → b < w'.heap.size ∧ (b < N ∨ w.heap.size ≤ b)) ∧ Below w.heap.size w w'
theorem tells_of {α : Type} {N : Nat} {Arg : α → Array Value → (Nat → Prop) → World → Prop} {xs : List α} {w : World} {e : Ending} {w' : World} (h : TellsFrom N Arg xs w e w') : TellsOut Arg xs w e w' := by
  obtain ⟨gf, lb, RB, h1, h2, h3, h4, h5⟩ := h
  exact ⟨gf, lb, RB, h1, h2, h3, fun b hb => (h4 b hb).1, h5⟩
theorem hdr_from {B : Nat} {w0 w w1 : World} {q : Option Addr} {n c : Nat} {zs : List Fld} (h : HdrIn B w0 q n c zs) (hw : Below w0.heap.size w0 w) (hb : Below w.heap.size w w1) : ∀ w2, Keep (fun b => b < w0.heap.size ∨ (w.heap.size ≤ b ∧ b < w1.heap.size)) w1 w2 → HdrIn B w2 q n c zs :=
  fun w2 hk => h.below ((hw.trans (hb.mono hw.size)).trans ((hk.mono fun b _ hb => .inl hb).below (hw.trans (hb.mono hw.size)).size))
theorem values_cons (f : Fld) (l : List Fld) (name : List UInt8) : valuesL (f :: l) name = (if sameN f.1 name = true then [f.2] else []) ++ valuesL l name := by
  unfold valuesL
  rw [List.filter_cons]
  split <;> rfl
theorem same_low (a b : List UInt8) : sameLow a b = sameN a b := by
  unfold sameLow sameN lowL
  by_cases h : a.map low = b.map low <;> simp [h]
set_option maxRecDepth 100000 in
set_option maxHeartbeats 8000000 in
theorem Values1_iter (Bx Bn B : Nat) (q : Option Addr) (n c : Nat) (zs : List Fld) (nm : List UInt8) (RB : Nat → Prop) (w0 : World) (hm : n ≤ 1048576) (hF : ∀ w2, Keep RB w0 w2 → HdrIn B w2 q n c zs) (b : Boxed w0 Bx 42 (.slice q n c)) (hRx : RB Bx) (bn : Boxed w0 Bn 9 (.string ⟨nm.toArray⟩)) (hRn : RB Bn) (hRl : ∀ b, RB b → b < w0.heap.size) (hnm : nm.length ≤ 1048576) (hs : ∀ z ∈ zs, z.1.length ≤ 1048576 ∧ z.2.length ≤ 1048576) :
    IterC Tryz.prog 118 #[.pointer (some ⟨Bn, 0, none⟩), .pointer (some ⟨Bx, 0, none⟩)] TxtArg (valuesL zs nm) RB w0 := by
  intro l J Jx W hW hJ hJx hY h0
  refine (callsIn_wide (n := 1)).1 ?_
  refine callsIn_of_wp Tryz.func118 rfl trivial ?_ rfl
  simp only [Tryz.ntmps118, List.size_toArray, List.length_cons, List.length_nil, Nat.reduceAdd, Nat.reduceSub, Array.replicate_succ, Array.replicate_zero, List.push_toArray, List.append_toArray, List.nil_append, List.cons_append]
  have kb := hW.boxed b hRx
  have kn := (hW.boxed bn hRn).cell
  have hl := Lib.hid (hF _ (Keep.refl _ _)).len
  obtain ⟨c0, W0, hr0, R0, B0, S0⟩ := conv_rowC W nm (by omega)
  have k1 := ((Keep.of_below B0).boxed kb kb.lt).cell
  have hj0 : J [] (fun b => b = W.heap.size) W0 := hJ _ _ _ _ _ h0 ((Keep.of_below B0).mono fun b hb _ => hb) (fun b hb => ⟨.inr (by omega), by omega⟩)
  have hK0 : Keep RB W W0 := (Keep.of_below B0).mono fun b hb _ => hb
  have HQ0 := Lib.hid (show ∀ b, b = W.heap.size → b < W0.heap.size from fun b hb => by omega)
  have HRW := Lib.hid (show ∀ b, RB b → b < W.heap.size from fun b hb => Nat.lt_of_lt_of_le (hRl b hb) hW.size)
  obtain ⟨gb, hgb⟩ : ∃ g, W.heap.size = g := ⟨_, rfl⟩
  rw [hgb] at hr0 R0 hj0 HQ0 HRW
  have HGB := Lib.hid hgb
  clear hgb B0 S0 kb h0
  gi_wp2
  gi_loopw [12] (fun i wr => ∃ k : Nat, ∃ pre : List (List UInt8), ∃ Q : Nat → Prop, k ≤ n ∧ i = .int .i64 k ∧ Keep RB W wr ∧ Hid (valuesL zs nm = pre ++ valuesL (zs.drop k) nm) ∧ J pre Q wr ∧ (∀ b, Q b → b < wr.heap.size) ∧ Q gb ∧ RowC wr (.slice (some ⟨gb, 0, none⟩) nm.length c0) nm) (fun i _ => n - (intOf i).toNat)
  case atStart => exact ⟨0, [], _, Nat.zero_le _, rfl, hK0, rfl, hj0, HQ0.out, rfl, R0⟩
  case round =>
    obtain ⟨k, pre, Q, hk, rfl, hK, HX, hJr, hQ, hQg, hRw⟩ := hrel
    clear hr0 R0 hj0 HQ0 hK0
    by_cases hlt : k < n
    · obtain ⟨g, o, rfl, _, hg, hc⟩ := (hF wr (hW.trans hK)).2.2.2 (by omega)
      obtain ⟨z, hz, hd⟩ := drop_getElemT zs k (by rw [hl.out]; exact hlt)
      obtain ⟨sx, sy⟩ := hs _ (List.mem_of_getElem? hz)
      obtain ⟨x, y⟩ := z
      obtain ⟨k2, k3⟩ := hc k _ hz
      simp only at k2 k3 sx sy
      have HX1 := Lib.hid (show valuesL zs nm = pre ++ ((if sameN x nm = true then [y] else []) ++ valuesL (zs.drop (k + 1)) nm) by rw [HX.out, hd, values_cons])
      have hbf : Below wr.heap.size wr (wr.alloc (.cells #[.string ⟨x.toArray⟩, .string ⟨y.toArray⟩] 138)) := (Below.refl _ wr).alloc (Nat.le_refl _) _
      have x0 := box_cell wr #[.string ⟨x.toArray⟩, .string ⟨y.toArray⟩] 138 0 _ rfl
      have x1 := box_cell wr #[.string ⟨x.toArray⟩, .string ⟨y.toArray⟩] 138 1 _ rfl
      obtain ⟨c1, W1, hr1, R1, B1, S1⟩ := conv_rowC (wr.alloc (.cells #[.string ⟨x.toArray⟩, .string ⟨y.toArray⟩] 138)) x (by omega)
      have x2 := cell_on x1 B1
      have hb2 := hbf.trans (B1.mono hbf.size)
      have hRw1 := hRw.below hb2
      obtain ⟨b1, hb1⟩ : ∃ b, (wr.alloc (.cells #[.string ⟨x.toArray⟩, .string ⟨y.toArray⟩] 138)).heap.size = b := ⟨_, rfl⟩
      rw [hb1] at hr1 R1 S1
      have con := cutSame_any (some ⟨b1, 0, none⟩) (some ⟨gb, 0, none⟩) x.length c1 nm.length c0 x nm W1 rfl rfl (by omega) (by omega) R1.by.at.2.2.2.2 hRw1.by.at.2.2.2.2
      rw [same_low] at con
      have HB1 := Lib.hid hb1
      have HY1 := Lib.hid sy
      have hy1 : y.length ≤ 1048576 := sy
      clear HX hd hz hc sx sy hbf R1 S1 hb1 hRw1 B1 x1
      obtain ⟨sm, hsm⟩ : ∃ b, sameN x nm = b := ⟨_, rfl⟩
      rw [hsm] at con HX1
      clear hsm
      gi_wp2_with fail
      refine ⟨trivial, (callsIn_wide.2 con).mono ?_⟩
      rintro e w3 ⟨rfl, hw3⟩
      subst hw3
      cases sm with
      | false =>
        have HX2 := Lib.hid (show valuesL zs nm = pre ++ valuesL (zs.drop (k + 1)) nm by rw [HX1.out, if_neg (by simp), List.nil_append])
        have hkk : Keep (fun b => b < wr.heap.size) wr W1 := (Keep.of_below hb2)
        have hQ2 : ∀ b, Q b → b < W1.heap.size := fun b hb => Nat.lt_of_lt_of_le (hQ b hb) hb2.size
        have hj2 := hJ _ _ Q _ _ hJr ((Keep.of_below hb2).mono fun b hb _ => hb) (fun b hb => ⟨.inl hb, hQ2 b hb⟩)
        have hRw2 := hRw.below hb2
        clear con HX1 hY x0 x2 kn k1 k2 k3 hr1 hF hs
        gi_wp2_with fail
        refine ⟨fun _ h => (by cases h), ?_⟩
        gi_wp2
        go_roundw
        case rel => exact ⟨k + 1, pre, Q, by omega, by go_num, hK.trans (hkk.mono fun b hb _ => Nat.lt_of_lt_of_le (HRW.out b ‹_›) (by have := HGB.out; have := hK.size; omega)), HX2, hj2, hQ2, hQg, hRw2⟩
        case measure => simp [intOf]; omega
      | true =>
        have HX2 := Lib.hid (show valuesL zs nm = pre ++ y :: valuesL (zs.drop (k + 1)) nm by rw [HX1.out, if_pos rfl]; rfl)
        obtain ⟨c2, W2, hr2, R2, B2, S2⟩ := conv_rowC W1 y (by omega)
        obtain ⟨b2, hbb2⟩ : ∃ b, W1.heap.size = b := ⟨_, rfl⟩
        rw [hbb2] at hr2 R2 S2
        have hb4 := hb2.trans (B2.mono hb2.size)
        have hs2 := hb2.size
        obtain ⟨fn, tmps, assign, body, hy, hR⟩ := yield_argG (W2 := wr) (w4 := W2) (G := fun b => (Value.slice (some ⟨b2, 0, none⟩) y.length c2).ownBlock = some b) (args := #[.slice (some ⟨b2, 0, none⟩) y.length c2]) hJ hY HX2.out hJr hQ hb4 (fun b h => by
          obtain rfl : b2 = b := by simpa [Value.ownBlock] using h
          omega) ⟨_, rfl, R2, rfl⟩
        clear con HX1 hY x0 kn k1 k2 k3 hr1 R2 S2 B2 hbb2 hb4 hs2 hb2
        gi_wp2_with fail
        refine hR.mono ?_
        rintro e W5 ⟨ok, rfl, hkp, Q', hQQ, hQl', hpost⟩
        have hk5 : Keep RB W W5 := hK.trans (hkp.mono fun b _ h => .inl h)
        have hRw5 := hRw.keep hkp (fun b hb => by cases hb; exact .inr hQg)
        have hQg5 := hQQ gb hQg
        clear hR hy
        cases ok with
        | false =>
          have hj5 := (hpost.resolve_left (by simp)).2
          clear hpost
          gi_wp2
          refine bodyPost_ret (results_none rfl _ _ _) rfl ?_
          exact ⟨⟨_, rfl⟩, Q', hQl', .inr ⟨pre ++ [y], _, by rw [HX2.out, List.append_assoc]; rfl, hj5⟩⟩
        | true =>
          have hj5 := (hpost.resolve_right (by simp)).2
          clear hpost
          gi_wp2
          go_roundw
          case rel => exact ⟨k + 1, pre ++ [y], Q', by omega, by go_num, hk5, Lib.hid (by rw [HX2.out, List.append_assoc]; rfl), hj5, hQl', hQg5, hRw5⟩
          case measure => simp [intOf]; omega
    · have HX2 := Lib.hid (show valuesL zs nm = pre by rw [HX.out, List.drop_of_length_le (by rw [hl.out]; omega)]; simp [valuesL])
      clear HX hY hF
      gi_wp2
      refine bodyPost_end (results_none rfl _ _ _) rfl ?_
      exact ⟨⟨_, rfl⟩, Q, hQ, .inl (by rw [HX2.out]; exact hJr)⟩
end Go.Proofs.YtedglpfdibamdaaGreatDoor.Hdr
namespace Go.Proofs.YtedglpfdibamdaaGreatDoor.Frm
open Cls
set_option linter.unusedVariables false
def frmV (r : Sum Int (List (List (List UInt8)))) : List (List (List UInt8)) := match r with
  | .inl _ => []
  | .inr f => f
def frmE (r : Sum Int (List (List (List UInt8)))) : Int := match r with
  | .inl n => n
  | .inr _ => 0
end Go.Proofs.YtedglpfdibamdaaGreatDoor.Frm
namespace Go.Proofs.YtedglpfdibamdaaGreatDoor.Hdr
open Go.RowKit Go.Shelf Url
attribute [local go_sem] Oper.semAt_some
set_option linter.unusedVariables false
set_option maxRecDepth 100000 in
set_option maxHeartbeats 2000000 in
theorem Values_from (B : Nat) (q : Option Addr) (n c : Nat) (l : List Fld) (name : List UInt8) (w0 w : World) (hw : Below w0.heap.size w0 w) (h : HdrIn B w0 q n c l) (hl : n ≤ 1048576) (hs : ∀ f ∈ l, f.1.length ≤ 1048576 ∧ f.2.length ≤ 1048576) (hm : name.length ≤ 1048576) :
    Calls Tryz.prog 81 #[.agg #[.slice q n c], .string ⟨name.toArray⟩] w (TellsFrom w0.heap.size TxtArg (valuesL l name) w) := by
  have hb : Below w.heap.size w ((w.alloc (.cells #[.slice q n c] 42)).alloc (.cells #[.string ⟨name.toArray⟩] 9)) := ((Below.refl _ w).alloc (Nat.le_refl _) _).alloc (by simp) _
  have b2 := Boxed.new (w.alloc (.cells #[.slice q n c] 42)) 9 (.string ⟨name.toArray⟩)
  rw [World.size_alloc] at b2
  have hF := hdr_from h hw hb
  have hsz := hw.size
  have hi := Values1_iter w.heap.size (w.heap.size + 1) B q n c l name _ _ hl hF ((Boxed.new w _ _).alloc _) (.inr ⟨Nat.le_refl _, by simp; omega⟩) b2 (.inr ⟨by omega, by simp⟩) (fun b h => by rcases h with h | h; (have := hb.size; omega); exact h.2) hm hs
  clear h hs b2 hF
  go_enter Tryz.func81, Tryz.ntmps81
  go_wp2
  go_ret
  exact ⟨_, _, _, rfl, enters_of Tryz.func118 (by kernel_rfl) rfl, hi, fun b h => ⟨by rcases h with h | h; (have := hb.size; omega); exact h.2, by rcases h with h | h; exact .inl h; exact .inr h.1⟩, hb⟩
theorem Values_any (B : Nat) (q : Option Addr) (n c : Nat) (l : List Fld) (name : List UInt8) (w : World) (h : HdrIn B w q n c l) (hl : n ≤ 1048576) (hs : ∀ f ∈ l, f.1.length ≤ 1048576 ∧ f.2.length ≤ 1048576) (hm : name.length ≤ 1048576) :
    Calls Tryz.prog 81 #[.agg #[.slice q n c], .string ⟨name.toArray⟩] w (TellsOut TxtArg (valuesL l name) w) :=
  (Values_from B q n c l name w w (Below.refl _ _) h hl hs hm).mono fun _ _ h => tells_of h
end Go.Proofs.YtedglpfdibamdaaGreatDoor.Hdr
namespace Go.Proofs.YtedglpfdibamdaaGreatDoor.Hdr
open Go.RowKit Go.Shelf Url
attribute [local go_sem] Oper.semAt_some
set_option linter.unusedVariables false
end Go.Proofs.YtedglpfdibamdaaGreatDoor.Hdr
namespace Go.Proofs.YtedglpfdibamdaaGreatDoor.Frm
open Cls
set_option linter.unusedVariables false
def labV (r : Sum Int Lab) : Lab := match r with
  | .inl _ => ⟨[], []⟩
  | .inr l => l
def labE (r : Sum Int Lab) : Int := match r with
  | .inl n => n
  | .inr _ => 0
structure LOk (l : Lab) : Prop where
  s : FOk l.s
  i : FOk l.i
theorem LOk.canon {l : Lab} (h : LOk l) : LabOk l := ⟨h.s.canon, h.i.canon⟩
theorem open_ok : LOk ⟨[], []⟩ := ⟨always_ok, always_ok⟩
theorem shut_ok : LOk ⟨[[]], []⟩ := ⟨neverF_ok, always_ok⟩
theorem parseL_cases (t : List UInt8) (l : Lab) (h : parseL t = .inr l) : t.length ≤ 4096 ∧ ((∃ s, Ref.splitL 59 t = [s] ∧ parseF s = .inr l.s ∧ l.i = []) ∨ ∃ s i, Ref.splitL 59 t = [s, i] ∧ parseF s = .inr l.s ∧ parseF i = .inr l.i) := by
  unfold parseL at h
  split at h
  · cases h
  · rename_i hl
    refine ⟨by omega, ?_⟩
    split at h
    · rename_i s hs
      split at h
      · cases h
      · rename_i f hf
        cases h
        exact .inl ⟨s, hs, hf, rfl⟩
    · rename_i s i hs
      split at h
      · cases h
      · rename_i f hf
        split at h
        · cases h
        · rename_i g hg
          cases h
          exact .inr ⟨s, i, hs, hf, hg⟩
    · cases h
theorem parse_lab (t : List UInt8) : LOk (labV (parseL t)) := by
  cases h : parseL t with
  | inl n => exact open_ok
  | inr l =>
    rcases (parseL_cases t l h).2 with ⟨s, _, h1, h2⟩ | ⟨s, i, _, h1, h2⟩
    · exact ⟨parseF_ok s _ h1, by show FOk l.i; rw [h2]; exact always_ok⟩
    · exact ⟨parseF_ok s _ h1, parseF_ok i _ h2⟩
theorem errF (l : List (List (List UInt8))) (n : Int) (h : ofF l = .inl n) : n = 3 := by
  unfold ofF at h
  split at h
  · cases h
  · cases h; rfl
theorem one_canon (c : List (List UInt8)) (h : COk c) : Canon [c] :=
  ⟨Rises.cons (fun y hy => (by cases hy)) Rises.nil, fun d hd => (by rw [List.mem_singleton.1 hd]; exact h.rise), fun x hx y hy _ => (by rw [List.mem_singleton.1 hx, List.mem_singleton.1 hy])⟩
theorem one_ok (c : List (List UInt8)) (h : COk c) : FOk [c] := ⟨one_canon c h, fun d hd => (by rw [List.mem_singleton.1 hd]; exact h), by simp⟩
end Go.Proofs.YtedglpfdibamdaaGreatDoor.Frm
namespace Go.Proofs.YtedglpfdibamdaaGreatDoor.Hdr
open Go.RowKit Go.Shelf Url
attribute [local go_sem] Oper.semAt_some
set_option linter.unusedVariables false
end Go.Proofs.YtedglpfdibamdaaGreatDoor.Hdr
namespace Go.Proofs.YtedglpfdibamdaaGreatDoor.Frm
open Cls Url
set_option linter.unusedVariables false
theorem split_aheadC (c : UInt8) : ∀ (x y : List UInt8), c ∉ x → Ref.splitL c (x ++ c :: y) = x :: Ref.splitL c y
  | [], y, _ => Ref.split_is c y
  | b :: x, y, h => by
    have hb : b ≠ c := fun e => h (by simp [e])
    rw [List.cons_append, Ref.split_not c b _ hb, split_aheadC c x y (fun e => h (by simp [e]))]
    rfl
theorem split_noC (c : UInt8) : ∀ x : List UInt8, c ∉ x → Ref.splitL c x = [x]
  | [], _ => rfl
  | b :: x, h => by
    have hb : b ≠ c := fun e => h (by simp [e])
    rw [Ref.split_not c b _ hb, split_noC c x (fun e => h (by simp [e]))]
    rfl
theorem split_at (c : UInt8) (l : List UInt8) : Ref.splitL c l = if atOk c l = true then atFst c l :: Ref.splitL c (atSnd c l) else [atFst c l] := by
  by_cases h : c ∈ l
  · obtain ⟨x, y, rfl, hx⟩ := List.eq_append_cons_of_mem h
    have hi : Lib.indexByte (x ++ c :: y) c = (x.length : Int) := index_at _ _ _ (by simp) (by simp [List.getD]) fun j hj => by
      intro e
      apply hx
      rw [← e, List.getD, List.getElem?_append_left hj, List.getElem?_eq_getElem hj]
      exact List.getElem_mem hj
    obtain ⟨h1, h2, h3⟩ := at_found c _ _ hi
    rw [h1, h2, h3, if_pos rfl, split_aheadC c x y hx]
    simp
  · have hi : Lib.indexByte l c = -1 := index_no _ _ fun j hj e => h (by
      rw [← e, List.getD, List.getElem?_eq_getElem hj]
      exact List.getElem_mem hj)
    obtain ⟨h1, h2, h3⟩ := at_none c l hi
    rw [h1, h3, split_noC c l h]
    rfl
theorem at_len (c : UInt8) (l : List UInt8) : (atFst c l).length ≤ l.length ∧ (atSnd c l).length ≤ l.length := by
  unfold atFst atSnd
  split
  · rw [List.length_take, List.length_drop]; omega
  · simp
theorem parseC_err2 (t : List UInt8) (n : Int) (h : parseC t = .inl n) : n = 2 ∨ n = 3 := by
  unfold parseC at h
  split at h
  · cases h; exact .inr rfl
  · split at h
    · cases h
    · unfold ofC at h
      split at h
      · split at h
        · cases h
        · cases h; exact .inr rfl
      · cases h; exact .inl rfl
theorem clausesL_no : ∀ (l : List (List UInt8)) (n : Int), clausesL l = .inl n → n = 2 ∨ n = 3
  | [], n, h => by cases h
  | p :: l, n, h => by
    unfold clausesL at h
    split at h
    · rename_i e he; cases h; exact parseC_err2 p _ he
    · split at h
      · rename_i e he; cases h; exact clausesL_no l _ he
      · cases h
theorem parseF_no (t : List UInt8) (n : Int) (h : parseF t = .inl n) : n = 2 ∨ n = 3 := by
  unfold parseF at h
  split at h
  · cases h; exact .inr rfl
  · split at h
    · cases h
    · split at h
      · rename_i e he; cases h; exact clausesL_no _ _ he
      · exact .inr (errF _ _ h)
theorem at_no_snd (c : UInt8) (l : List UInt8) (h : atOk c l = false) : atSnd c l = [] := (at_ahead c l).2.2 h
theorem at_nil (c : UInt8) : atOk c [] = false := by
  obtain ⟨_, _, h3⟩ := at_none c [] (index_no _ _ fun j hj => by simp at hj)
  exact h3
theorem parseL_two (t : List UInt8) (hl : ¬ 4096 < t.length) (h : atOk 59 (atSnd 59 t) = true) : parseL t = .inl 2 := by
  have h0 : atOk 59 t = true := by
    cases e : atOk 59 t with
    | true => rfl
    | false => rw [at_no_snd _ _ e, at_nil] at h; cases h
  unfold parseL
  rw [if_neg hl, split_at, if_pos h0, split_at 59 (atSnd 59 t), if_pos h]
  obtain ⟨p, r, hr⟩ := List.exists_cons_of_ne_nil (Ref.split_ne 59 (atSnd 59 (atSnd 59 t)))
  rw [hr]
theorem parseL_one (t : List UInt8) (hl : ¬ 4096 < t.length) (h : atOk 59 t = false) : parseL t = match parseF (atFst 59 t) with
    | .inl e => .inl e
    | .inr f => .inr ⟨f, []⟩ := by
  unfold parseL
  rw [if_neg hl, split_at, if_neg (by rw [h]; simp)]
  rfl
theorem parseL_both (t : List UInt8) (hl : ¬ 4096 < t.length) (h : atOk 59 t = true) (h2 : atOk 59 (atSnd 59 t) = false) : parseL t = match parseF (atFst 59 t) with
    | .inl e => .inl e
    | .inr f => match parseF (atSnd 59 t) with
      | .inl e => .inl e
      | .inr g => .inr ⟨f, g⟩ := by
  have h3 : atFst 59 (atSnd 59 t) = atSnd 59 t := by
    have := split_at 59 (atSnd 59 t)
    rw [if_neg (by rw [h2]; simp)] at this
    unfold atOk at h2
    unfold atFst
    rw [if_neg (of_decide_eq_false h2)]
  unfold parseL
  rw [if_neg hl, split_at, if_pos h, split_at 59 (atSnd 59 t), if_neg (by rw [h2]; simp), h3]
  rfl
end Go.Proofs.YtedglpfdibamdaaGreatDoor.Frm
namespace Go.Proofs.YtedglpfdibamdaaGreatDoor.Hdr
open Go.RowKit Go.Shelf Url
attribute [local go_sem] Oper.semAt_some
set_option linter.unusedVariables false
end Go.Proofs.YtedglpfdibamdaaGreatDoor.Hdr
namespace Go.Proofs.YtedglpfdibamdaaGreatDoor.Url
open Go.RowKit Go.Shelf
def RowsOf (W : World) (base : Nat) (v : Value) (vs : List Value) (ks : List (List UInt8)) : Prop :=
  W.ownsRow base 22 1 v ks.length vs ∧ ∀ (i : Nat) (x : Value) (k : List UInt8), vs[i]? = some x → ks[i]? = some k → W.ownsRow base 5 1 x k.length (byV k)
def KB (v : Value) (vs : List Value) (b : Nat) : Prop := v.ownBlock = some b ∨ ∃ x ∈ vs, x.ownBlock = some b
theorem RowsOf.len {W : World} {base : Nat} {v : Value} {vs : List Value} {ks : List (List UInt8)} (h : RowsOf W base v vs ks) : vs.length = ks.length := by
  have := h.1.1; omega
theorem RowsOf.nil (W : World) (base : Nat) : RowsOf W base (.slice none 0 0) [] [] := ⟨World.ownsRow_nil _ _ _ _, fun i x k h => by simp at h⟩
theorem RowsOf.lt {W : World} {base : Nat} {v : Value} {vs : List Value} {ks : List (List UInt8)} (h : RowsOf W base v vs ks) : ∀ b, KB v vs b → base ≤ b ∧ b < W.heap.size := by
  rintro b (hb | ⟨x, hx, hb⟩)
  · exact h.1.lt b hb
  · obtain ⟨i, hi, rfl⟩ := List.mem_iff_getElem.1 hx
    have hk : i < ks.length := by rw [← h.len]; exact hi
    exact (h.2 i _ _ (List.getElem?_eq_getElem hi) (List.getElem?_eq_getElem hk)).lt b hb
theorem RowsOf.keep {S : Nat → Prop} {W W' : World} {base : Nat} {v : Value} {vs : List Value} {ks : List (List UInt8)} (h : RowsOf W base v vs ks) (hk : Keep S W W') (hS : ∀ b, KB v vs b → S b) : RowsOf W' base v vs ks :=
  ⟨hk.row h.1 fun b hb => hS b (.inl hb), fun i x k hi hj => hk.row (h.2 i x k hi hj) fun b hb => hS b (.inr ⟨x, List.mem_of_getElem? hi, hb⟩)⟩
theorem RowsOf.not_box {W : World} {base B : Nat} {t : TypeId} {u v : Value} {vs : List Value} {ks : List (List UInt8)} (h : RowsOf W base v vs ks) (hB : Boxed W B t u) (h1 : t ≠ 22) (h2 : t ≠ 5) : ¬ KB v vs B := by
  rintro (hb | ⟨x, hx, hb⟩)
  · exact hB.not_row h1 h.1 hb.symm
  · obtain ⟨i, hi, rfl⟩ := List.mem_iff_getElem.1 hx
    have hk : i < ks.length := by rw [← h.len]; exact hi
    exact hB.not_row h2 (h.2 i _ _ (List.getElem?_eq_getElem hi) (List.getElem?_eq_getElem hk)) hb.symm
theorem byte_row_ne {W : World} {base base' g m n : Nat} {v x : Value} {xs ys : List Value} (h : W.ownsRow base 22 1 v n xs) (h' : W.ownsRow base' 5 1 x m ys) (hb : v.ownBlock = some g) : x.ownBlock ≠ some g := fun he => by
  rcases h.2 with ⟨rfl, _⟩ | ⟨g1, cap1, cur1, rfl, _, hg1, _⟩
  · simp [Value.ownBlock] at hb
  · rcases h'.2 with ⟨rfl, _⟩ | ⟨g2, cap2, cur2, rfl, _, hg2, _⟩
    · simp [Value.ownBlock] at he
    · obtain rfl : g1 = g := by simpa [Value.ownBlock] using hb
      obtain rfl : g2 = g1 := by simpa [Value.ownBlock] using he
      rw [hg1] at hg2
      injection hg2 with hg2
      injection hg2 with _ hg2
      exact absurd hg2 (by decide)
theorem RowsOf.dropLast {W : World} {base n c : Nat} {q : Option Addr} {vs : List Value} {ks : List (List UInt8)} (h : RowsOf W base (.slice q n c) vs ks) : n = ks.length ∧ RowsOf W base (.slice q (n - 1) c) vs.dropLast ks.dropLast := by
  have hl := h.len
  have hn : n = ks.length := by
    rcases h.1.2 with ⟨he, hz⟩ | ⟨g, cap, cur, he, _⟩
    · cases he; omega
    · cases he; rfl
  refine ⟨hn, ?_, fun i x k hi hj => ?_⟩
  · refine ⟨by rw [List.length_dropLast, List.length_dropLast]; omega, ?_⟩
    rcases h.1.2 with ⟨he, hz⟩ | ⟨g, cap, cur, he, hb, hg, h1, h2, h3, h4⟩
    · cases he
      exact .inl ⟨by simp, by rw [List.length_dropLast]; omega⟩
    · cases he
      refine .inr ⟨g, c, cur, by rw [List.length_dropLast], hb, hg, by rw [List.length_dropLast]; omega, h2, h3, ?_⟩
      rw [List.length_dropLast, ← h4, List.dropLast_eq_take]
      simp only [Nat.mul_one, List.take_take, List.length_take]
      have hm : ks.length ≤ cur.size := by omega
      have hcs : cur.toList.length = cur.size := rfl
      congr 1; omega
  · rw [List.getElem?_dropLast] at hi hj
    split at hi
    · split at hj
      · exact h.2 i x k hi hj
      · cases hj
    · cases hi
theorem join_lib (c : UInt8) : ∀ R : List (List UInt8), Lib.join R [c] = Ref.joinL c R
  | [] => rfl
  | [p] => Lib.join_one p [c]
  | p :: q :: r => by
    have ih := join_lib c (q :: r)
    rw [Lib.join_cons] at ih ⊢
    show p ++ Lib.joinTail [c] (q :: r) = p ++ c :: Ref.joinL c (q :: r)
    rw [← ih]
    simp [Lib.joinTail]
theorem lens_weight : ∀ R : List (List UInt8), Lib.lens R + R.length = weightL R
  | [] => rfl
  | p :: r => by
    have ih := lens_weight r
    simp only [Lib.lens, List.map_cons, List.sum_cons, List.length_cons, weightL] at ih ⊢
    omega
theorem By.holds {w : World} {v : Value} {l : List UInt8} (h : By w v l) : Lib.HoldsBytes w v l := by
  obtain ⟨q, c, rfl, h1, h2, h3, h4⟩ := h
  refine ⟨q, c, rfl, fun hq => List.eq_nil_of_length_eq_zero (by have := h3 hq; omega), fun a ha i x hx => ?_⟩
  subst ha
  have hi : i < l.length := (List.getElem?_eq_some_iff.1 hx).1
  obtain ⟨b, o, he, hc⟩ := h4.at (by omega)
  cases he
  rw [Go.WideShapes.add_plain, hc i hi, numsL_getD _ _ hi, List.getD, hx]; rfl
theorem By.fresh {B : Nat} {w : World} {v : Value} {l : List UInt8} (h : Lib.FreshBytes B w v l) : By w v l := by
  obtain ⟨g, cap, zs, rfl, _, h1, h2, h3, h4, h5, h6, _⟩ := h
  refine ⟨_, cap, rfl, h1, h2, (fun h => by cases h), fun _ => ⟨g, 0, rfl, fun i hi => ?_⟩⟩
  rw [Nat.zero_add, h6 i (by omega), numsL_getD _ _ hi, ← h5]
  have hz : i < zs.length := by omega
  have hr := h4 _ (List.getElem_mem hz)
  have hi' : i < (Lib.bytesOf (zs.take l.length)).length := by rw [Lib.bytesOf_length, List.length_take]; omega
  rw [List.getD, List.getElem?_eq_getElem hz, List.getD, List.getElem?_eq_getElem hi']
  simp only [Option.getD_some, Lib.bytesOf, List.getElem_map, List.getElem_take, UInt8.toNat_ofNat']
  congr 2; omega
set_option maxHeartbeats 1000000 in
theorem Join_any (base c n : Nat) (q : Option Addr) (vs : List Value) (ks : List (List UInt8)) (sv : Value) (w : World) (h : RowsOf w base (.slice q n c) vs ks) (hs : By w sv [47]) (hw : weightL ks ≤ 1099511627776) :
    Calls Tryz.prog 184 #[.slice q n c, sv] w fun e w' => ∃ v, e = .returned v ∧ By w' v (Ref.joinL 47 ks) ∧ Below w.heap.size w w' := by
  have hlen := h.len
  have hwt := lens_weight ks
  have key : ks ≠ [] → ∃ g, q = some ⟨g, 0, none⟩ ∧ n = ks.length ∧ n ≤ c ∧ ∀ (i : Nat) x, vs[i]? = some x → w.cell? ⟨g, i, none⟩ = some x := by
    intro hne
    have hpos : 0 < ks.length := List.length_pos_iff.2 hne
    rcases h.1.2 with ⟨he, hz⟩ | ⟨g, cap, cur, he, hb, hg, h1, h2, h3, h4⟩
    · omega
    · cases he
      refine ⟨g, rfl, rfl, h1, fun i x hx => ?_⟩
      have hi : i < vs.length := (List.getElem?_eq_some_iff.1 hx).1
      have : (cur.toList.take (ks.length * 1))[i]? = some x := by rw [h4]; exact hx
      rw [List.getElem?_take, if_pos (by omega)] at this
      simp only [World.cell?, hg]
      simpa using this
  rcases Nat.lt_or_ge 1 ks.length with h2 | h2
  · obtain ⟨g, rfl, hn, hnc, hc⟩ := key (by intro e; rw [e] at h2; simp at h2)
    have hP : Lib.PartsAt w ⟨g, 0, none⟩ vs ks := ⟨hlen, fun i x hx => by rw [Go.WideShapes.add_plain, Nat.zero_add]; exact hc i x hx, fun i x k hx hk => (By.row (h.2 i x k hx hk)).holds⟩
    refine (Tryz.bytes_Join_many g 0 n c vs ks sv [47] w hn.symm (by omega) hP hnc hs.holds (by omega) (by simp; omega)).mono ?_
    rintro e w' ⟨v, he, hf, hb⟩
    rw [join_lib] at hf
    exact ⟨v, he, By.fresh hf, hb⟩
  · match ks, h2 with
    | [], _ =>
      have hn : n = 0 := by
        rcases h.1.2 with ⟨he, _⟩ | ⟨g, cap, cur, he, _⟩
        · cases he; rfl
        · cases he; rfl
      subst hn
      refine (Tryz.bytes_Join_none q c sv w).mono ?_
      rintro e w' ⟨rfl, rfl⟩
      exact ⟨_, rfl, By.of rfl (Nat.le_refl _) (Nat.zero_le _) (fun _ => rfl) (Lib.BytesIn.nil _ _ _), (Below.refl _ _).alloc (Nat.le_refl _) _⟩
    | [k], _ =>
      obtain ⟨g, rfl, hn, hnc, hc⟩ := key (by simp)
      obtain rfl : n = 1 := hn
      obtain ⟨x, rfl⟩ : ∃ x, vs = [x] := by
        match vs, hlen with
        | [x], _ => exact ⟨x, rfl⟩
      have hb := By.row (h.2 0 x k rfl rfl)
      have hcell := hc 0 x rfl
      obtain ⟨p0, c0, rfl, h5, h6, h7, h8⟩ := hb.holds |> fun _ => hb
      rcases Nat.eq_zero_or_pos k.length with hk | hk
      · have hk' : k = [] := List.eq_nil_of_length_eq_zero hk
        subst hk'
        refine (Tryz.bytes_Join_one_empty g 0 c p0 c0 sv w hcell).mono ?_
        rintro e w' ⟨rfl, rfl⟩
        exact ⟨_, rfl, by_nil _, Below.refl _ _⟩
      · obtain ⟨b, o, rfl, hcc⟩ := h8.at hk
        refine (Tryz.bytes_Join_one g 0 c ⟨b, o, none⟩ c0 k sv w hcell (fun i y hy => by
          have hi : i < k.length := (List.getElem?_eq_some_iff.1 hy).1
          rw [Go.WideShapes.add_plain, hcc i hi, numsL_getD _ _ hi, List.getD, hy]; rfl) hk (by simp [weightL] at hw; omega)).mono ?_
        rintro e w' ⟨v, he, hf, hb'⟩
        exact ⟨v, he, By.fresh hf, hb'⟩
def tailsX (pre : List (Nat × List UInt8)) : List (List UInt8) := (pre.map Prod.snd).tail
theorem tails_snoc (pre : List (Nat × List UInt8)) (x : Nat × List UInt8) (h : pre ≠ []) : tailsX (pre ++ [x]) = tailsX pre ++ [x.2] := by
  unfold tailsX
  rw [List.map_append, List.map_singleton, List.tail_append_of_ne_nil (by simpa using h)]
theorem tails_one (x : Nat × List UInt8) : tailsX ([] ++ [x]) = [] := rfl
theorem forms_snoc : ∀ (l : List (List UInt8)) (p : List UInt8) (cs : List (List UInt8)) (c : List UInt8), formsL l = some cs → formL 1 p = some c → formsL (l ++ [p]) = some (cs ++ [c])
  | [], p, cs, c, h, hp => by
    rw [formsL] at h; cases h
    rw [List.nil_append, formsL, hp]; rfl
  | a :: r, p, cs, c, h, hp => by
    rw [formsL] at h
    obtain ⟨d, hd, h⟩ := Option.bind_eq_some_iff.1 h
    obtain ⟨ds, hds, rfl⟩ := Option.map_eq_some_iff.1 h
    rw [List.cons_append, formsL, hd, Option.bind_some, forms_snoc r p ds c hds hp]; rfl
theorem forms_bad : ∀ (l r : List (List UInt8)) (p : List UInt8), formL 1 p = none → formsL (l ++ p :: r) = none
  | [], r, p, hp => by rw [List.nil_append, formsL, hp]; rfl
  | a :: t, r, p, hp => by
    rw [List.cons_append, formsL, forms_bad t r p hp]
    cases formL 1 a <;> rfl
theorem stack_snoc (cs : List (List UInt8)) (c : List UInt8) : stackL [] (cs ++ [c]) = if c = [46] then stackL [] cs else if c = [46, 46] then (stackL [] cs).dropLast else stackL [] cs ++ [c] := by
  rw [stack_app, stackL, stackL]
theorem last_snoc (cs : List (List UInt8)) (c : List UInt8) : (cs ++ [c]).getLastD [] = c := by simp
theorem path_split (l : List UInt8) (h : l = [] ∨ ∃ r, l = 47 :: r) : pathL l = (formsL (Ref.splitL 47 l).tail).map fun cs => 47 :: Ref.joinL 47 (dotsL cs) := by
  rcases h with rfl | ⟨r, rfl⟩
  · rfl
  · rw [Ref.split_is]; rfl
theorem tails_split (l : List UInt8) : tailsX (splitX 47 l) = (Ref.splitL 47 l).tail := by
  unfold tailsX; rw [Host.splitX_snd]
end Go.Proofs.YtedglpfdibamdaaGreatDoor.Url
namespace Go.Proofs.YtedglpfdibamdaaGreatDoor.Url
open Go.RowKit Go.Shelf
attribute [local go_sem] Oper.semAt_some
theorem info_sl : (Tryz.prog.info? 22).map (fun i => (i.zero, i.size, i.bytes)) = some (some (.slice none 0 0), 1, 24) := by kernel_rfl
theorem results_path {fn : Func} {p r : Tmp} (h : fn.results = #[.cell p 22, .cell r 43]) (tmps : Array Value) (w : World) (B C : Nat) (v u : Value) (hp : tmps.getD p undef = .pointer (some ⟨B, 0, none⟩)) (hr : tmps.getD r undef = .pointer (some ⟨C, 0, none⟩)) (hb : w.cell? ⟨B, 0, none⟩ = some v) (hc : w.cell? ⟨C, 0, none⟩ = some u) :
    (results fn tmps).run Tryz.prog w = .ok (.tuple #[v, u]) w := by
  have hp' : tmps[p]?.getD undef = .pointer (some ⟨B, 0, none⟩) := by simpa using hp
  have hr' : tmps[r]?.getD undef = .pointer (some ⟨C, 0, none⟩) := by simpa using hr
  have ha : ∀ w', (isAgg 22).run Tryz.prog w' = .ok false w' := Tryz.isAgg22
  have hd : ∀ w', (isAgg 43).run Tryz.prog w' = .ok false w' := Tryz.isAgg43
  have hl : (load ⟨B, 0, none⟩).run Tryz.prog w = .ok v w := by simp [go_sem, hb]
  have hm : (load ⟨C, 0, none⟩).run Tryz.prog w = .ok u w := by simp [go_sem, hc]
  simp [results, h, hp', hr', asAddr, loadVar, ha, hd, hl, hm, Result.andThen]
theorem own_len (q : Option Addr) (n m c d : Nat) : (Value.slice q n c).ownBlock = (Value.slice q m d).ownBlock := by cases q <;> rfl
theorem rows_slice {W : World} {base : Nat} {v : Value} {vs : List Value} {ks : List (List UInt8)} (h : RowsOf W base v vs ks) : ∃ q c, v = .slice q ks.length c ∧ ks.length ≤ c ∧ c ≤ maxLen := by
  rcases h.1.2 with ⟨rfl, hz⟩ | ⟨g, cap, cur, rfl, _, _, h1, h2, _⟩
  · exact ⟨none, 0, by rw [hz], by omega, Nat.zero_le _⟩
  · exact ⟨_, cap, rfl, h1, h2⟩
theorem strs_eq (l m : List UInt8) : ((⟨l.toArray⟩ : ByteArray).toList == (⟨m.toArray⟩ : ByteArray).toList) = decide (l = m) := by
  rw [Lib.toList_data, Lib.toList_data, Bool.eq_iff_iff, beq_iff_eq, decide_eq_true_iff]
theorem conv_bytes {W : World} {q : Option Addr} {n c : Nat} {l : List UInt8} (h : Lib.BytesIn W q n (Lib.numsL l)) (hl : l.length = n) : (convert 22 9 (.slice q n c)).run Tryz.prog W = .ok (.string ⟨l.toArray⟩) W := by
  have h := h.convert (P := Tryz.prog) (by rw [Lib.numsL_length, hl]) c 22 5 9 Tryz.underlying22 Tryz.underlying5 Tryz.underlying9
  rwa [strOfNums_numsL] at h
theorem stack_len : ∀ (ps st : List (List UInt8)), (stackL st ps).length ≤ st.length + ps.length
  | [], st => by simp [stackL]
  | p :: r, st => by
    rw [stackL]
    have ih := stack_len r (if p = [46] then st else if p = [46, 46] then st.dropLast else st ++ [p])
    have hs : (if p = [46] then st else if p = [46, 46] then st.dropLast else st ++ [p]).length ≤ st.length + 1 := by
      split
      · omega
      · split
        · rw [List.length_dropLast]; omega
        · simp
    rw [List.length_cons]; omega
theorem wpListIn_append_by {F : Fence} {nF : Nat} {ops : Array Oper} {rest : List Oper} {o : Oper} {a : Act} {w : World} {Q : Exit → Act → World → Prop} (hgd : o.guard = none) (s x : Operand)
    (ho : o.op = .call { callee := .builtin .append, args := #[s, x], argTypes := #[22, 22] })
    (base : Nat) (v : Value) (n : Nat) (xs : List Value) (hs : a.eval s = v) (hown : w.ownsRow base 5 1 v n xs) (vx : Value) (bs : List UInt8) (hx : a.eval x = vx) (hb : By w vx bs) (h47 : n + bs.length ≤ 140737488355328) (hbase : base ≤ w.heap.size)
    (h : ∀ v' w', w'.ownsRow base 5 1 v' (n + bs.length) (xs ++ byV bs) → w.grownBy w' v.ownBlock → wpListIn F nF Tryz.prog ops Q rest (a.put o.dst v') w') : wpListIn F nF Tryz.prog ops Q (o :: rest) a w := by
  refine wpListIn_plain hgd fun K hK => ?_
  obtain ⟨v', w', hr, h1, h2⟩ := run_append_by o.type base v n xs w hown vx bs hb h47 hbase
  unfold Oper.wpIn
  refine ⟨by simp [Oper.about, ho, resolve, Target.leads, Sem.run_pure], ?_⟩
  rw [Oper.semAt_plain F _ _ (by rw [ho]; intro c hc'; cases hc')]
  simp [execOp, ho, resolve, invoke, builtin, hs, hx, hr, Result.andThen]
  exact hK _ _ (h v' w' h1 h2)
theorem own_lit (w : World) (b : UInt8) : (w.alloc (.cells #[.int .u8 (b.toNat : Int)] 5)).ownsRow w.heap.size 5 1 (.slice (some ⟨w.heap.size, 0, none⟩) 1 1) 1 (byV [b]) :=
  ⟨rfl, .inr ⟨w.heap.size, 1, #[.int .u8 (b.toNat : Int)], rfl, Nat.le_refl _, World.alloc_heap_new w _, Nat.le_refl _, by decide, rfl, rfl⟩⟩
def PthI (w W1 : World) (pre : List (Nat × List UInt8)) (Pv : Nat → Prop) (W : World) : Prop :=
  ∃ cs v vs, Boxed W w.heap.size 22 (.slice none 0 0) ∧ Boxed W (w.heap.size + 1) 43 (.int .i64 0) ∧ Boxed W (w.heap.size + 1 + 1) 148 v ∧ Boxed W (w.heap.size + 1 + 1 + 1) 4 (.bool (dotB (cs.getLastD []))) ∧
    RowsOf W W1.heap.size v vs (stackL [] cs) ∧ (∀ b, KB v vs b → ¬ Pv b) ∧ (∀ b, Pv b → W1.heap.size ≤ b) ∧ Keep (fun _ => False) W1 W ∧ Hid (formsL (tailsX pre) = some cs) ∧ cs.length ≤ pre.length ∧ Below w.heap.size w W
theorem PthI_abide {w W1 : World} (h : w.heap.size + 4 ≤ W1.heap.size) : Abide (PthI w W1) := by
  rintro pre Pv Pv' A B ⟨cs, v, vs, h1, h2, h3, h4, h5, h6, h7, h8, h9, h10, h11⟩ hk hp
  have kk : ∀ b, b < W1.heap.size → ¬ Pv b := fun b hb hn => by have := h7 b hn; omega
  have hs := h8.size
  refine ⟨cs, v, vs, hk.boxed h1 (kk _ (by omega)), hk.boxed h2 (kk _ (by omega)), hk.boxed h3 (kk _ (by omega)), hk.boxed h4 (kk _ (by omega)), h5.keep hk h6, fun b hb hp' => ?_, fun b hb => ?_, h8.trans (hk.mono fun _ _ h => h.elim), h9, h10, h11.trans ((hk.mono fun b _ hb => kk b (by omega)).below h11.size)⟩
  · rcases (hp b hp').1 with h' | h'
    · exact h6 b hb h'
    · have := (h5.lt b hb).2; omega
  · rcases (hp b hb).1 with h' | h'
    · exact h7 b h'
    · omega
def PthE (w : World) (l : List UInt8) (_ : List (Nat × List UInt8)) (W : World) : Prop :=
  Boxed W w.heap.size 22 (.slice none 0 0) ∧ Boxed W (w.heap.size + 1) 43 (.int .i64 2) ∧ Hid (pathL l = none) ∧ Below w.heap.size w W
set_option maxRecDepth 100000 in
set_option maxHeartbeats 8000000 in
theorem canonOfPath_any (q : Option Addr) (n c : Nat) (l : List UInt8) (w : World) (hby : By w (.slice q n c) l) (hn : n ≤ 1048576) (hform : l = [] ∨ ∃ r, l = 47 :: r) :
    Calls Tryz.prog 150 #[.slice q n c] w fun e w' => Pct.TextPost (pathL l) w e w' := by
  obtain ⟨i1, hi1, hz0, hz1, hz2⟩ := info_parts info_sl
  refine (callsIn_wide (n := 1)).1 ?_
  refine callsIn_of_wp_marks Tryz.func150 rfl trivial ?_ rfl
  simp only [Tryz.ntmps150, List.size_toArray, List.length_cons, List.length_nil, Nat.reduceAdd, Nat.reduceSub, Array.replicate_succ, Array.replicate_zero, List.push_toArray, List.append_toArray, List.nil_append, List.cons_append]
  obtain ⟨W0', hW0', b0, b1, b2, b3, hs0', hk0⟩ := four_boxes w 22 43 148 4 (.slice none 0 0) (.int .i64 0) (.slice none 0 0) (.bool false)
  clear hW0' b0 b1 b2 b3 hs0' hk0
  obtain ⟨W0, hW0⟩ : ∃ W0, (((w.alloc (.cells #[.slice none 0 0] 22)).alloc (.cells #[.int .i64 0] 43)).alloc (.cells #[.slice none 0 0] 148)).alloc (.cells #[.bool false] 4) = W0 := ⟨_, rfl⟩
  have b0 : Boxed W0 w.heap.size 22 (.slice none 0 0) := hW0 ▸ (((Boxed.new w _ _).alloc _).alloc _).alloc _
  have b1 : Boxed W0 (w.heap.size + 1) 43 (.int .i64 0) := by
    have := ((Boxed.new (w.alloc (.cells #[.slice none 0 0] 22)) 43 (.int .i64 0)).alloc (.cells #[.slice none 0 0] 148)).alloc (.cells #[.bool false] 4)
    rw [World.size_alloc] at this
    exact hW0 ▸ this
  have b2 : Boxed W0 (w.heap.size + 1 + 1) 148 (.slice none 0 0) := by
    have := (Boxed.new ((w.alloc (.cells #[.slice none 0 0] 22)).alloc (.cells #[.int .i64 0] 43)) 148 (.slice none 0 0)).alloc (.cells #[.bool false] 4)
    rw [World.size_alloc, World.size_alloc] at this
    exact hW0 ▸ this
  have b3 : Boxed W0 (w.heap.size + 1 + 1 + 1) 4 (.bool false) := by
    have := Boxed.new (((w.alloc (.cells #[.slice none 0 0] 22)).alloc (.cells #[.int .i64 0] 43)).alloc (.cells #[.slice none 0 0] 148)) 4 (.bool false)
    rw [World.size_alloc, World.size_alloc, World.size_alloc] at this
    exact hW0 ▸ this
  have hB0 : Below w.heap.size w W0 := hW0 ▸ ((((Below.refl _ w).alloc (Nat.le_refl _) _).alloc (by simp) _).alloc (by simp only [World.size_alloc]; omega) _).alloc (by simp only [World.size_alloc]; omega) _
  have hs0 : W0.heap.size = w.heap.size + 1 + 1 + 1 + 1 := by rw [← hW0]; simp
  obtain ⟨hl, hnc0, hcm0, hnil0, h⟩ := hby.at
  have hb0 := bytes_on h hB0
  have con := Split_any q n c 47 l W0 hl (by omega) hb0
  have hsmall := splitX_small 47 l n hl
  have hlenX := splitX_len 47 l
  have hnum := splitX_num 47 l
  rw [hl] at hlenX
  have HW0 := Lib.hid hW0
  have HPS := Lib.hid (path_split l hform)
  have HTS := Lib.hid (tails_split l)
  have HWT := Lib.hid (weight_split 47 l)
  have HL := Lib.hid hl
  clear hW0 hb0 hl hby h hform
  gi_wp2_with fail
  rw [HW0.out]
  refine ⟨trivial, (callsIn_wide.2 con).mono ?_⟩
  rintro e W1 ⟨B, v', rfl, hB, hBc, hrow, hBl, hbel⟩
  have hit := Split_iter (by omega) hB hBc hrow
  have hRl0 : ∀ b, (b = B ∨ b = W0.heap.size ∨ v'.ownBlock = some b) → w.heap.size + 4 ≤ b ∧ b < W1.heap.size := fun b hb => by
    rcases hb with rfl | rfl | hb
    · exact ⟨by omega, hB.lt⟩
    · exact ⟨by omega, hBc.lt⟩
    · have := hrow.lt b hb; exact ⟨by omega, this.2⟩
  obtain ⟨RB, hRB⟩ : ∃ RB : Nat → Prop, RB = fun b => b = B ∨ b = W0.heap.size ∨ v'.ownBlock = some b := ⟨_, rfl⟩
  rw [← hRB, hs0] at hit
  have hRl : ∀ b, RB b → w.heap.size + 4 ≤ b ∧ b < W1.heap.size := fun b hb => hRl0 b (by rw [hRB] at hb; exact hb)
  clear hRB hRl0
  replace b0 := (Keep.of_below hbel).boxed b0 (by omega)
  replace b1 := (Keep.of_below hbel).boxed b1 (by omega)
  replace b2 := (Keep.of_below hbel).boxed b2 (by omega)
  replace b3 := (Keep.of_below hbel).boxed b3 (by omega)
  have hB1 := hB0.trans (hbel.mono hB0.size)
  have hs1 := hbel.size
  clear con hB hBc hrow hBl hbel HW0 hB0
  generalize splitX 47 l = xs at *
  gi_wp2
  rw [hs0] at hs1
  clear hs0
  refine rf_law (gf := 119) (lb := #[.pointer (some ⟨B, 0, none⟩), .pointer (some ⟨w.heap.size + 1 + 1 + 1 + 1, 0, none⟩)]) rfl (enters_of Tryz.func119 (by kernel_rfl) rfl)
    hit (Keep.refl _ _) (fun b hb => (hRl b hb).2) (fun x args G W h => by obtain ⟨v, rfl, _⟩ := h; rfl)
    (PthI w W1) (Host.EvX W1 (PthE w l)) (PthI_abide hs1) (Host.EvX_abide ?e2)
    ⟨[], .slice none 0 0, [], b0, b1, b2, b3, RowsOf.nil _ _, (fun _ _ h => h), (fun _ h => h.elim), Keep.refl _ _, Lib.hid rfl, Nat.zero_le _, hB1⟩ ?round ?done ?stop
  case e2 =>
    rintro pre A B hk ⟨h1, h2, h3, h4⟩
    exact ⟨hk.boxed h1 (by omega), hk.boxed h2 (by omega), h3, h4.trans ((hk.mono fun b _ hb => by omega).below h4.size)⟩
  case round =>
    rintro ll pre ⟨xi, x⟩ rest Pv G args Wr hll hxs ⟨cs, v, vs, hE0, hE1, hE2, hE3, hR, hnk, hge, hK1, HF, hcl, hE8⟩ hPl hGl hPb hGP ⟨p, rfl, hp, rfl⟩
    have hxm : (xi, x) ∈ xs := by rw [hxs]; simp
    have hxl := hsmall _ hxm
    have hxi := hnum pre (xi, x) rest hxs
    simp only at hxl hp hxi
    subst hxi
    obtain ⟨qx, cx, rfl, _, hnc, hcm, hbs, hblk⟩ := row_open hp
    have hlen : pre.length + rest.length + 1 = xs.length := by rw [hxs]; simp; omega
    gi_wp2
    refine ⟨Keep.refl _ _, fun W2 hk2 hs2 r hr => ?_⟩
    have k2 : Keep (fun b => b < W1.heap.size) Wr W2 := hk2.mono fun b _ hb h => by omega
    have kP : Keep (fun b => ¬ Pv b) Wr W2 := hk2.mono fun b _ hb h => hb (h ▸ hPl)
    have f0 := k2.boxed hE0 (by omega)
    have f1 := k2.boxed hE1 (by omega)
    have f2 := k2.boxed hE2 (by omega)
    have f3 := k2.boxed hE3 (by omega)
    have hR2 := hR.keep kP hnk
    have gx : Keep (fun b => (Value.slice qx x.length cx).ownBlock = some b) Wr W2 := hk2.mono fun b _ hb h => hGl (h ▸ hb)
    have hbs2 : Lib.BytesIn W2 qx x.length (Lib.numsL x) := bytes_keep hbs gx (fun a ha _ => (hblk a ha).2.2)
    have hW2 := hE8.trans ((k2.mono fun b _ h => by omega).below hE8.size)
    have hs2' := hE8.size
    have hK2 := hK1.trans (hk2.mono fun _ _ h => h.elim)
    have hPl2 : ∀ b, Pv b → b < W2.heap.size := fun b hb => by rw [hs2]; exact hPb b hb
    have con2 := Pct.Canon_any qx x.length cx x 1 W2 rfl (by omega) hbs2
    have hszW := hW2.size
    have hs12 := hK2.size
    clear hbs hp hbs2 hblk hk2 gx hE0 hE1 hE2 hE3 hR kP k2 hK1 hE8
    by_cases hp0 : pre = []
    · have e0 : ((pre.length : Int) == 0) = true := by rw [beq_iff_eq, hp0]; rfl
      have HF2 := Lib.hid (show formsL (tailsX (pre ++ [(pre.length, x)])) = some cs by rw [hp0, tails_one]; have := HF.out; rw [hp0] at this; exact this)
      have hcl2 : cs.length ≤ (pre ++ [(pre.length, x)]).length := by rw [List.length_append]; omega
      clear con2 hxs
      gi_wp2
      exact ⟨Keep.refl _ _, cs, v, vs, f0, f1, f2, f3, hR2, fun b hb h => hnk b hb h.1, fun b hb => hge b hb.1, hK2, HF2, hcl2, hW2⟩
    · have e0 : ((pre.length : Int) == 0) = false := by
        rw [beq_eq_false_iff_ne]
        have := List.length_pos_iff.2 hp0
        omega
      have HXS := Lib.hid (show tailsX xs = tailsX pre ++ x :: rest.map Prod.snd by
        rw [hxs]; unfold tailsX
        rw [List.map_append, List.tail_append_of_ne_nil (by simpa using hp0)]; rfl)
      have HTS1 := Lib.hid (tails_snoc pre (pre.length, x) hp0)
      clear hxs hp0
      cases hf : formL 1 x with
      | none =>
        have HPN := Lib.hid (show pathL l = none by rw [HPS.out, ← HTS.out, HXS.out, forms_bad _ _ _ hf]; rfl)
        have hf' : (Pct.itemsL x).map (Pct.canL 1) = none := hf
        rw [hf'] at con2
        clear hf hf' HXS HTS1
        gi_wp2_with fail
        refine ⟨trivial, rfl, (CallsIn.inRound ll (callsIn_wide.2 con2)).mono ?_⟩
        rintro e W3 ⟨v3, n3, rfl, hn3, hr3, hb3⟩
        obtain rfl : n3 = 2 := hn3.out
        obtain ⟨q3, c3, rfl, _, _, _, _, _⟩ := row_open hr3
        have g0 := (Keep.of_below hb3).boxed f0 f0.lt
        have g1 := (Keep.of_below hb3).boxed f1 f1.lt
        have x0 := g0.cell
        have x1 := g1.cell
        have z0 := g0.frozen
        have z1 := g1.frozen
        have hW3 := hW2.trans (hb3.mono hszW)
        clear con2 hr3 hn3 f2 f3 hR2
        gi_wp2
        have kst : ∀ S : Nat → Prop, ¬ S w.heap.size → ¬ S (w.heap.size + 1) → Keep S W3 ((W3.setCell ⟨w.heap.size, 0, none⟩ (.slice none 0 0)).setCell ⟨w.heap.size + 1, 0, none⟩ (.int .i64 2)) := fun S h h' => (Keep.setCell _ _ _ h).trans (Keep.setCell _ _ _ h')
        refine ⟨((Keep.of_below hb3).mono fun b hb _ => hb).trans (kst _ (fun h => ?_) (fun h => ?_)), rfl, fun b hb => hge b hb.1, (hK2.trans ((Keep.of_below hb3).mono fun _ _ h => h.elim)).trans (kst _ (fun h => h) (fun h => h)), ?_, ?_, HPN.out, ?_⟩
        · rcases h with h | h
          · have := (hRl _ h).1; omega
          · have := hge _ h.1; omega
        · rcases h with h | h
          · have := (hRl _ h).1; omega
          · have := hge _ h.1; omega
        · exact (Keep.setCell (S := fun b => b = w.heap.size) _ ⟨w.heap.size + 1, 0, none⟩ _ (by simp)).boxed (g0.set _) rfl
        · exact ((Keep.setCell (S := fun b => b = w.heap.size + 1) W3 ⟨w.heap.size, 0, none⟩ _ (by simp)).boxed g1 rfl).set _
        · exact (hW3.setCell (p := ⟨w.heap.size, 0, none⟩) (Nat.le_refl _) _).setCell (p := ⟨w.heap.size + 1, 0, none⟩) (Nat.le_succ _) _
      | some cc =>
        have hf' : (Pct.itemsL x).map (Pct.canL 1) = some cc := hf
        rw [hf'] at con2
        have HF2 := Lib.hid (show formsL (tailsX (pre ++ [(pre.length, x)])) = some (cs ++ [cc]) by rw [HTS1.out]; exact forms_snoc _ _ _ _ HF.out hf)
        have hcl2 : (cs ++ [cc]).length ≤ (pre ++ [(pre.length, x)]).length := by rw [List.length_append, List.length_append]; simp; omega
        have hkl := stack_len cs []
        clear hf hf' HXS HTS1 HF
        obtain ⟨qv, cv, rfl, hv1, hv2⟩ := rows_slice hR2
        obtain ⟨ks, hks⟩ : ∃ ks, stackL [] cs = ks := ⟨_, rfl⟩
        rw [hks] at hR2 hv1 hkl hnk f2
        have HKS := Lib.hid hks
        have HSN := Lib.hid (stack_snoc cs cc)
        rw [hks] at HSN
        have HLN := Lib.hid (last_snoc cs cc)
        obtain ⟨m, hm⟩ : ∃ m, ks.length = m := ⟨_, rfl⟩
        rw [hm] at hv1 hkl hnk f2 hR2
        have HM := Lib.hid hm
        simp only [List.length_nil, Nat.zero_add] at hkl
        clear hks
        gi_wp2_with fail
        refine ⟨trivial, rfl, (CallsIn.inRound ll (callsIn_wide.2 con2)).mono ?_⟩
        rintro e W3 ⟨v3, n3, rfl, hn3, hr3, hb3⟩
        obtain rfl : n3 = 0 := hn3.out
        replace hr3 : W3.ownsRow W2.heap.size 5 1 v3 cc.length (byV cc) := hr3
        obtain ⟨q3, c3, rfl, _, _, _, hbb, hblk3⟩ := row_open hr3
        have hcv := conv_bytes (c := c3) hbb rfl
        have g0 := (Keep.of_below hb3).boxed f0 f0.lt
        have g1 := (Keep.of_below hb3).boxed f1 f1.lt
        have g2 := (Keep.of_below hb3).boxed f2 f2.lt
        have g3 := (Keep.of_below hb3).boxed f3 f3.lt
        have hR3 := hR2.keep (Keep.of_below hb3) (fun b hb => (hR2.lt b hb).2)
        have x2 := g2.cell
        have x3 := g3.cell
        have z2 := g2.frozen
        have z3 := g3.frozen
        have hW3 := hW2.trans (hb3.mono hszW)
        have hs23 := hb3.size
        have hK3 : Keep (fun _ => False) W1 W3 := hK2.trans ((Keep.of_below hb3).mono fun _ _ h => h.elim)
        have hkk : Keep (fun b => RB b ∨ Pv b ∧ ¬(Value.slice qx x.length cx).ownBlock = some b) W2 W3 := (Keep.of_below hb3).mono fun b hb _ => hb
        have hPl3 : ∀ b, Pv b → b < W2.heap.size := hPl2
        have hnb : ∀ b, b < w.heap.size + 4 → ¬ (RB b ∨ Pv b ∧ ¬(Value.slice qx x.length cx).ownBlock = some b) := fun b hb h => by
          rcases h with h | h
          · have := (hRl _ h).1; omega
          · have := hge _ h.1; omega
        clear con2 hn3 f0 f1 f2 f3 hR2 hbb hblk3
        by_cases h1 : cc = [46]
        · have e1 : (cc == ([46] : List UInt8)) = true := by rw [beq_iff_eq]; exact h1
          have HSK := Lib.hid (show stackL [] (cs ++ [cc]) = ks by rw [HSN.out, if_pos h1])
          have HDT := Lib.hid (show dotB ((cs ++ [cc]).getLastD []) = true by rw [HLN.out, h1]; decide)
          clear h1 HSN HLN
          gi_wp2
          have kst : ∀ S : Nat → Prop, ¬ S (w.heap.size + 1 + 1 + 1) → Keep S W3 (W3.setCell ⟨w.heap.size + 1 + 1 + 1, 0, none⟩ (.bool true)) := fun S h => Keep.setCell _ _ _ h
          refine ⟨hkk.trans (kst _ (hnb _ (by omega))), cs ++ [cc], _, vs, (kst (fun b => b = w.heap.size) (by omega)).boxed g0 rfl, (kst (fun b => b = w.heap.size + 1) (by omega)).boxed g1 rfl, (kst (fun b => b = w.heap.size + 1 + 1) (by omega)).boxed g2 rfl, ?_, ?_, fun b hb h => hnk b hb h.1, fun b hb => hge b hb.1, hK3.trans (kst _ (fun h => h)), HF2, hcl2, hW3.setCell (p := ⟨w.heap.size + 1 + 1 + 1, 0, none⟩) (show w.heap.size ≤ w.heap.size + 1 + 1 + 1 by omega) _⟩
          · rw [HDT.out]; exact g3.set _
          · rw [HSK.out]; exact hR3.keep (kst (fun b => b ≠ w.heap.size + 1 + 1 + 1) (fun h => h rfl)) (fun b hb => by have := (hR3.lt b hb).1; omega)
        · have e1 : (cc == ([46] : List UInt8)) = false := by rw [beq_eq_false_iff_ne]; exact h1
          by_cases h2 : cc = [46, 46]
          · have e2 : (cc == ([46, 46] : List UInt8)) = true := by rw [beq_iff_eq]; exact h2
            have HSK := Lib.hid (show stackL [] (cs ++ [cc]) = ks.dropLast by rw [HSN.out, if_neg h1, if_pos h2])
            have HDT := Lib.hid (show dotB ((cs ++ [cc]).getLastD []) = true by rw [HLN.out, h2]; decide)
            have hmx : (max ((m : Int) - 1) 0).toNat = m - 1 := by omega
            have HMX := Lib.hid hmx
            clear h1 h2 HSN HLN hmx
            gi_wp2
            rw [HMX.out]
            have kst : ∀ S : Nat → Prop, ¬ S (w.heap.size + 1 + 1) → ¬ S (w.heap.size + 1 + 1 + 1) → Keep S W3 ((W3.setCell ⟨w.heap.size + 1 + 1, 0, none⟩ (.slice qv (m - 1) cv)).setCell ⟨w.heap.size + 1 + 1 + 1, 0, none⟩ (.bool true)) := fun S h h' => (Keep.setCell _ _ _ h).trans (Keep.setCell _ _ _ h')
            have hRd := (hR3.dropLast).2
            refine ⟨hkk.trans (kst _ (hnb _ (by omega)) (hnb _ (by omega))), cs ++ [cc], _, vs.dropLast, (kst (fun b => b = w.heap.size) (by omega) (by omega)).boxed g0 rfl, (kst (fun b => b = w.heap.size + 1) (by omega) (by omega)).boxed g1 rfl,
              (Keep.setCell (S := fun b => b = w.heap.size + 1 + 1) _ ⟨w.heap.size + 1 + 1 + 1, 0, none⟩ _ (by simp)).boxed (g2.set _) rfl, ?_, ?_, fun b hb h => hnk b ?_ h.1, fun b hb => hge b hb.1, hK3.trans (kst _ (fun h => h) (fun h => h)), HF2, hcl2,
              (hW3.setCell (p := ⟨w.heap.size + 1 + 1, 0, none⟩) (show w.heap.size ≤ w.heap.size + 1 + 1 by omega) _).setCell (p := ⟨w.heap.size + 1 + 1 + 1, 0, none⟩) (show w.heap.size ≤ w.heap.size + 1 + 1 + 1 by omega) _⟩
            · rw [HDT.out]; exact ((Keep.setCell (S := fun b => b = w.heap.size + 1 + 1 + 1) W3 ⟨w.heap.size + 1 + 1, 0, none⟩ _ (by simp)).boxed g3 rfl).set _
            · rw [HSK.out]; exact hRd.keep (kst (fun b => b ≠ w.heap.size + 1 + 1 ∧ b ≠ w.heap.size + 1 + 1 + 1) (fun h => h.1 rfl) (fun h => h.2 rfl)) (fun b hb => by have := (hRd.lt b hb).1; omega)
            · rcases hb with hb | ⟨y, hy, hb⟩
              · exact .inl ((own_len qv _ _ _ _).symm.trans hb)
              · exact .inr ⟨y, List.dropLast_subset _ hy, hb⟩
          · have e2 : (cc == ([46, 46] : List UInt8)) = false := by rw [beq_eq_false_iff_ne]; exact h2
            have HSK := Lib.hid (show stackL [] (cs ++ [cc]) = ks ++ [cc] by rw [HSN.out, if_neg h1, if_neg h2])
            have HDT := Lib.hid (show dotB ((cs ++ [cc]).getLastD []) = false by rw [HLN.out]; unfold dotB; simp [h1, h2])
            clear h1 h2 HSN HLN
            gi_wp2_with (gi_at_builtin; go_must (refine wpListIn_append_own_at _ rfl _ _ 148 rfl W1.heap.size 22 i1 (.slice none 0 0) 1 24 Tryz.underlying148 hi1 hz0 hz1 hz2 rfl (by decide) _ _ _ rfl (hR3.1.alloc _) ⟨W3.heap.size, 0, none⟩ 1 1 [.slice q3 cc.length c3] rfl rfl (cell_one_new _ _ _) (by simp [Value.oneCell']) (by rw [HM.out]; unfold maxLen; omega) (by rw [HM.out]; omega) (by simp; omega) ?_); intro v' w4 hown' hgrow _ hat; obtain ⟨g', cap', rfl⟩ := ownsRow_succ hown'; obtain ⟨hv1', hv2', hr2', hkk'⟩ := Pct.appended_keep (S := fun b => b ≠ w.heap.size + 1 + 1 ∧ ¬ (Value.slice qv m cv).ownBlock = some b) g2 (by decide) hR3.1 (fun h => h.1 rfl) (fun b hb h => h.2 hb) hown' hgrow; have hc1 := hv1'.cell; have hf1 := hv1'.frozen; have hx4 := (g3.alloc (.cells #[.slice q3 cc.length c3] 22)).kept hgrow (g3.not_row (by decide) hR3.1); have hx4c := hx4.cell; have hx4f := hx4.frozen)
            rw [hm] at hkk' hv2' hr2' hat
            have hol : ∀ b, (Value.slice qv m cv).ownBlock = some b → W1.heap.size ≤ b := fun b hb => (hR3.1.lt b hb).1
            have hx5 := (Keep.setCell (S := fun b => b = w.heap.size + 1 + 1 + 1) w4 ⟨w.heap.size + 1 + 1, 0, none⟩ (.slice (some ⟨g', 0, none⟩) (m + 1) cap') (by simp)).boxed hx4 rfl
            have k35 : ∀ S : Nat → Prop, (∀ b, S b → b ≠ w.heap.size + 1 + 1 ∧ b ≠ w.heap.size + 1 + 1 + 1 ∧ ¬ (Value.slice qv m cv).ownBlock = some b) → Keep S W3 ((w4.setCell ⟨w.heap.size + 1 + 1, 0, none⟩ (.slice (some ⟨g', 0, none⟩) (m + 1) cap')).setCell ⟨w.heap.size + 1 + 1 + 1, 0, none⟩ (.bool false)) := fun S hS =>
              (hkk'.mono fun b _ hb => ⟨(hS b hb).1, (hS b hb).2.2⟩).trans (Keep.setCell _ _ _ fun h => (hS _ h).2.1 rfl)
            have hs14 : w.heap.size + 4 ≤ W1.heap.size := hs1
            have hlt2 : (vs ++ [Value.slice q3 cc.length c3]).length = (ks ++ [cc]).length := by rw [List.length_append, List.length_append, hR3.len]; rfl
            have hvl := hR3.len
            refine ⟨hkk.trans (k35 _ fun b hb => ?_), cs ++ [cc], _, vs ++ [.slice q3 cc.length c3], (k35 (fun b => b = w.heap.size) (fun b hb => ⟨by omega, by omega, fun h => by have := hol b h; omega⟩)).boxed g0 rfl, (k35 (fun b => b = w.heap.size + 1) (fun b hb => ⟨by omega, by omega, fun h => by have := hol b h; omega⟩)).boxed g1 rfl,
              (Keep.setCell (S := fun b => b = w.heap.size + 1 + 1) _ ⟨w.heap.size + 1 + 1 + 1, 0, none⟩ _ (by simp)).boxed hv2' rfl, ?_, ?_, ?_, fun b hb => hge b hb.1, hK3.trans (k35 _ fun b hb => hb.elim), HF2, hcl2, hW3.trans ((k35 (fun b => b < w.heap.size) (fun b hb => ⟨by omega, by omega, fun h => by have := hol b h; omega⟩)).below hW3.size)⟩
            · refine ⟨fun h => hnb b (by omega) hb, fun h => hnb b (by omega) hb, fun h => ?_⟩
              rcases hb with hb | hb
              · have := (hRl b hb).2; have := hol b h; omega
              · exact hnk b (.inl h) hb.1
            · rw [HDT.out]; exact hx5.set _
            · rw [HSK.out]
              refine ⟨?_, fun i y k hi hk => ?_⟩
              · rw [List.length_append, HM.out]
                exact (Keep.setCell (S := fun b => b ≠ w.heap.size + 1 + 1 + 1) _ ⟨w.heap.size + 1 + 1 + 1, 0, none⟩ _ (fun h => h rfl)).row hr2' (fun b hb => by have := (hr2'.lt b hb).1; omega)
              · have keepRow : ∀ (z : Value) (kz : List UInt8), W3.ownsRow W1.heap.size 5 1 z kz.length (byV kz) → ((w4.setCell ⟨w.heap.size + 1 + 1, 0, none⟩ (.slice (some ⟨g', 0, none⟩) (m + 1) cap')).setCell ⟨w.heap.size + 1 + 1 + 1, 0, none⟩ (.bool false)).ownsRow W1.heap.size 5 1 z kz.length (byV kz) := fun z kz hz =>
                  (k35 (fun b => z.ownBlock = some b) fun b hb => ⟨by have := (hz.lt b hb).1; omega, by have := (hz.lt b hb).1; omega, fun h => byte_row_ne hR3.1 hz h hb⟩).row hz (fun b hb => hb)
                rcases Nat.lt_or_ge i vs.length with hlt | hlt
                · rw [List.getElem?_append_left hlt] at hi
                  rw [List.getElem?_append_left (by omega)] at hk
                  exact keepRow y k (hR3.2 i y k hi hk)
                · rw [List.getElem?_append_right hlt] at hi
                  rw [List.getElem?_append_right (by omega)] at hk
                  have hi0 : i - vs.length = 0 := by
                    have := (List.getElem?_eq_some_iff.1 hi).1
                    simpa using this
                  rw [hi0] at hi
                  rw [show i - ks.length = 0 by omega] at hk
                  cases hi
                  cases hk
                  exact keepRow _ _ (row_base hr3 hs12)
            · rintro b (hb | ⟨y, hy, hb⟩) h
              · rcases hat with h' | h'
                · exact hnk b (.inl (h' ▸ hb)) h.1
                · rw [h'] at hb
                  cases hb
                  have := hPl3 _ h.1
                  simp at this
                  omega
              · rcases List.mem_append.1 hy with hy | hy
                · exact hnk b (.inr ⟨y, hy, hb⟩) h.1
                · rw [List.mem_singleton.1 hy] at hb
                  have h5 := (hr3.lt b hb).1
                  have h6 := hPl3 b h.1
                  omega
  case done =>
    rintro D Pv Wd hD hPD hPl ⟨cs, v, vs, hE0, hE1, hE2, hE3, hR, hnk, hge, hK1, HF, hcl, hE8⟩ hK
    have hF := HF.out
    rw [HTS.out] at hF
    have HP := Lib.hid (show pathL l = some (47 :: Ref.joinL 47 (dotsL cs)) by rw [HPS.out, hF]; rfl)
    have hw1 := weight_forms _ _ hF
    have hw2 : weightL (Ref.splitL 47 l).tail ≤ weightL (Ref.splitL 47 l) := by
      cases Ref.splitL 47 l with
      | nil => exact Nat.le_refl _
      | cons p r => rw [List.tail_cons, weightL]; omega
    have hw3 := weight_dots cs
    have hwd : weightL (dotsL cs) ≤ 4194304 := by have := HWT.out; have := HL.out; omega
    have hwj := weight_join 47 (dotsL cs)
    obtain ⟨qv, cv, rfl, hv1, hv2⟩ := rows_slice hR
    have HDL := Lib.hid (show dotsL cs = stackL [] cs ++ (if dotB (cs.getLastD []) = true then [[]] else []) from rfl)
    have hkl := stack_len cs []
    have hcx : cs.length ≤ n + 1 := Nat.le_trans hcl hlenX
    obtain ⟨ks, hks⟩ : ∃ ks, stackL [] cs = ks := ⟨_, rfl⟩
    rw [hks] at hR hv1 hkl hnk hE2
    have HKS := Lib.hid hks
    simp only [List.length_nil, Nat.zero_add] at hkl
    have hDl := hPl D hPD
    have hszd := hE8.size
    have hs1d := hK1.size
    have hgD := hge D hPD
    have y0 := hE0.cell
    have y1 := hE1.cell
    have y2 := hE2.cell
    have y3 := hE3.cell
    have u0 := hE0.frozen
    have u1 := hE1.frozen
    have u2 := hE2.frozen
    clear hks hF hw1 hw2 hw3 HF HTS HPS HWT hcl hlenX
    generalize dotB (cs.getLastD []) = dt at *
    cases dt with
    | false =>
      have HDK := Lib.hid (show dotsL cs = ks by rw [HDL.out, HKS.out]; simp)
      rw [HDK.out] at hwd hwj
      rw [HDK.out] at HP
      clear HDK HDL HKS
      have z2 : ∀ o, (Wd.alloc o).cell? ⟨w.heap.size + 1 + 1, 0, none⟩ = some (.slice qv ks.length cv) := fun o => (hE2.alloc o).cell
      have hlit := by_lit Wd #[.int .u8 47] [47] (0, 0) 1 rfl rfl (by decide)
      have hown := own_lit Wd 47
      have hBl := (Below.refl Wd.heap.size Wd).alloc (Nat.le_refl _) (.cells #[.int .u8 47] 5)
      have conJ := Join_any W1.heap.size cv (ks.length) qv (vs) (ks) (.slice (some ⟨Wd.heap.size, 0, none⟩) 1 1) (Wd.alloc (.cells #[.int .u8 47] 5)) (hR.keep (Keep.alloc (fun _ => True) _ _) (fun _ _ => trivial)) hlit (by omega)
      have hWs : (Wd.alloc (.cells #[.int .u8 47] 5)).heap.size = Wd.heap.size + 1 := by simp
      gi_wp2_with fail
      refine ⟨trivial, (callsIn_wide.2 conJ).mono ?_⟩
      rintro e V ⟨v5, rfl, hJ, hb5⟩
      have hownV := (Keep.of_below hb5).row hown (fun k hk => (hown.lt k hk).2)
      have hbV := hBl.trans (hb5.mono hBl.size)
      have hVs := hb5.size
      have r0 := (Keep.of_below hbV).boxed hE0 hE0.lt
      have r1 := (Keep.of_below hbV).boxed hE1 hE1.lt
      have rD := (hbV.block D (Array.getElem?_eq_some_iff.1 hK).1).trans hK
      have hE8V := hE8.trans (hbV.mono hE8.size)
      have l0 := (Array.getElem?_eq_some_iff.1 hK).1
      clear conJ hown hlit hb5 z2 hBl
      gi_wp2_with (gi_at_builtin; go_must (refine wpListIn_append_by rfl _ _ rfl Wd.heap.size _ 1 _ rfl hownV _ _ rfl hJ (by omega) hbV.size ?_); intro v6 X hr6 hg6; rw [← byV_app] at hr6; obtain ⟨q6, c6, rfl, _⟩ := row_open hr6; have k6 : ∀ S : Nat → Prop, (∀ b, S b → b < Wd.heap.size) → Keep S V X := (fun S hS => Keep.of_grownBy hg6 fun b hb h => (by have h1 := (hownV.lt b hb).1; have h2 := hS b h; omega)); have s0 := (k6 (fun b => b = w.heap.size) (fun b hb => by have := hE0.lt; omega)).boxed r0 rfl; have s1 := (k6 (fun b => b = w.heap.size + 1) (fun b hb => by have := hE1.lt; omega)).boxed r1 rfl; have sc0 := s0.cell; have sc1 := s1.cell; have sf0 := s0.frozen; have sf1 := s1.frozen)
      have k7 : ∀ S : Nat → Prop, ¬ S w.heap.size → ¬ S (w.heap.size + 1) → Keep S X ((X.setCell ⟨w.heap.size, 0, none⟩ (.slice q6 (1 + (Ref.joinL 47 (ks)).length) c6)).setCell ⟨w.heap.size + 1, 0, none⟩ (.int .i64 0)) := fun S h h' => (Keep.setCell _ _ _ h).trans (Keep.setCell _ _ _ h')
      have k8 : ∀ (S : Nat → Prop) (Y : World), ¬ S D → Keep S Y (Y.putObj D (.deferred none)) := fun S Y h => Keep.putObj _ _ _ h
      have hKd : ((X.setCell ⟨w.heap.size, 0, none⟩ (.slice q6 (1 + (Ref.joinL 47 (ks)).length) c6)).setCell ⟨w.heap.size + 1, 0, none⟩ (.int .i64 0)).heap[D]? = some (.deferred (some [])) := ((k6 (fun b => b = D) (fun b hb => by rw [hb]; exact l0)).trans (k7 (fun b => b = D) (by omega) (by omega))).heap rfl rD
      have q0 : Boxed ((X.setCell ⟨w.heap.size, 0, none⟩ (.slice q6 (1 + (Ref.joinL 47 (ks)).length) c6)).setCell ⟨w.heap.size + 1, 0, none⟩ (.int .i64 0)) w.heap.size 22 (.slice q6 (1 + (Ref.joinL 47 (ks)).length) c6) := (Keep.setCell (S := fun b => b = w.heap.size) _ ⟨w.heap.size + 1, 0, none⟩ _ (by simp)).boxed (s0.set _) rfl
      have q1 : Boxed ((X.setCell ⟨w.heap.size, 0, none⟩ (.slice q6 (1 + (Ref.joinL 47 (ks)).length) c6)).setCell ⟨w.heap.size + 1, 0, none⟩ (.int .i64 0)) (w.heap.size + 1) 43 (.int .i64 0) := ((Keep.setCell (S := fun b => b = w.heap.size + 1) X ⟨w.heap.size, 0, none⟩ _ (by simp)).boxed s1 rfl).set _
      refine ⟨by simp, .inl ⟨_, _, rfl, run_takeDeferred hKd, ?_⟩⟩
      refine ⟨_, results_path rfl _ _ w.heap.size (w.heap.size + 1) _ _ rfl rfl ((k8 (fun b => b = w.heap.size) _ (by omega)).boxed q0 rfl).cell ((k8 (fun b => b = w.heap.size + 1) _ (by omega)).boxed q1 rfl).cell, ?_⟩
      rw [HP.out]
      have hk9 : ∀ S : Nat → Prop, ¬ S w.heap.size → ¬ S (w.heap.size + 1) → ¬ S D → Keep S X (((X.setCell ⟨w.heap.size, 0, none⟩ (.slice q6 (1 + (Ref.joinL 47 (ks)).length) c6)).setCell ⟨w.heap.size + 1, 0, none⟩ (.int .i64 0)).putObj D (.deferred none)) := fun S h h' h'' => (k7 S h h').trans (k8 S _ h'')
      refine ⟨_, 0, rfl, Lib.hid rfl, ?_, ?_⟩
      · have hfin : (47 :: Ref.joinL 47 (ks)).length = 1 + (Ref.joinL 47 (ks)).length := by rw [List.length_cons]; omega
        show World.ownsRow _ w.heap.size 5 1 (.slice q6 (1 + (Ref.joinL 47 (ks)).length) c6) (47 :: Ref.joinL 47 (ks)).length (byV (47 :: Ref.joinL 47 (ks)))
        rw [hfin]
        exact row_base ((hk9 (fun b => Wd.heap.size ≤ b) (by have := hE0.lt; omega) (by have := hE1.lt; omega) (by omega)).row hr6 (fun b hb => (hr6.lt b hb).1)) (by have := hE0.lt; omega)
      · exact hE8V.trans (((k6 (fun b => b < w.heap.size) (fun b hb => by have := hE0.lt; omega)).trans (hk9 (fun b => b < w.heap.size) (by omega) (by omega) (by omega))).below hE8V.size)
    | true =>
      have HDK := Lib.hid (show dotsL cs = ks ++ [[]] by rw [HDL.out, HKS.out]; simp)
      rw [HDK.out] at hwd hwj
      rw [HDK.out] at HP
      clear HDK HDL HKS
      have hnb2 := hR.not_box hE2 (by decide) (by decide)
      gi_wp2_with (gi_at_builtin; go_must (refine wpListIn_append_own_at _ rfl _ _ 148 rfl W1.heap.size 22 i1 (.slice none 0 0) 1 24 Tryz.underlying148 hi1 hz0 hz1 hz2 rfl (by decide) _ _ _ rfl (hR.1.alloc _) ⟨Wd.heap.size, 0, none⟩ 1 1 [.slice none 0 0] rfl rfl (cell_one_new _ _ _) (by simp [Value.oneCell']) (by unfold maxLen; omega) (by omega) (by simp; omega) ?_); intro v' w4 hown' hgrow _ hat; obtain ⟨g', cap', rfl⟩ := ownsRow_succ hown'; obtain ⟨hv1', hv2', hr2', hkk'⟩ := Pct.appended_keep (S := fun b => b ≠ w.heap.size + 1 + 1 ∧ ¬ (Value.slice qv ks.length cv).ownBlock = some b) hE2 (by decide) hR.1 (fun h => h.1 rfl) (fun b hb h => h.2 hb) hown' hgrow; have hc1 := hv1'.cell; have hf1 := hv1'.frozen; have z4 : ∀ o, ((w4.setCell ⟨w.heap.size + 1 + 1, 0, none⟩ (.slice (some ⟨g', 0, none⟩) (ks.length + 1) cap')).alloc o).cell? ⟨w.heap.size + 1 + 1, 0, none⟩ = some (.slice (some ⟨g', 0, none⟩) (ks.length + 1) cap') := fun o => (hv2'.alloc o).cell)
      obtain ⟨Wc, hWc⟩ : ∃ Wc, w4.setCell ⟨w.heap.size + 1 + 1, 0, none⟩ (.slice (some ⟨g', 0, none⟩) (ks.length + 1) cap') = Wc := ⟨_, rfl⟩
      have hWcs : Wc.heap.size = w4.heap.size := by rw [← hWc]; simp [World.setCell]
      rw [hWc, ← hWcs]
      rw [hWc] at hv2' hr2' hkk' z4
      clear hWc hWcs hc1 hf1 z4 hv1' hown' hgrow
      have hol : ∀ b, (Value.slice qv ks.length cv).ownBlock = some b → W1.heap.size ≤ b := fun b hb => (hR.1.lt b hb).1
      have hC0 := hkk'.boxed hE0 ⟨by omega, fun h => by have := hol _ h; omega⟩
      have hC1 := hkk'.boxed hE1 ⟨by omega, fun h => by have := hol _ h; omega⟩
      have hC2 := hv2'
      have hCK := hkk'.heap ⟨by omega, fun h => hnk D (.inl h) hPD⟩ hK
      have hCE := hE8.trans ((hkk'.mono fun b _ hb => show b ≠ w.heap.size + 1 + 1 ∧ ¬ (Value.slice qv ks.length cv).ownBlock = some b from ⟨by omega, fun h => by have := hol _ h; omega⟩).below hE8.size)
      have hCl := hkk'.size
      have hvl := hR.len
      have hCR : RowsOf Wc W1.heap.size (.slice (some ⟨g', 0, none⟩) (ks.length + 1) cap') (vs ++ [Value.slice none 0 0]) (ks ++ [[]]) := by
        refine ⟨by rw [List.length_append]; exact hr2', fun i y k hi hk => ?_⟩
        rcases Nat.lt_or_ge i vs.length with hlt | hlt
        · rw [List.getElem?_append_left hlt] at hi
          rw [List.getElem?_append_left (by omega)] at hk
          have hz := hR.2 i y k hi hk
          exact (hkk'.mono fun b _ hb => show b ≠ w.heap.size + 1 + 1 ∧ ¬ (Value.slice qv ks.length cv).ownBlock = some b from ⟨by have := (hz.lt b hb).1; omega, fun h => byte_row_ne hR.1 hz h hb⟩).row hz (fun b hb => hb)
        · rw [List.getElem?_append_right hlt] at hi
          rw [List.getElem?_append_right (by omega)] at hk
          have hi0 : i - vs.length = 0 := by
            have := (List.getElem?_eq_some_iff.1 hi).1
            simpa using this
          rw [hi0] at hi
          rw [show i - ks.length = 0 by omega] at hk
          cases hi
          cases hk
          exact World.ownsRow_nil _ _ _ _
      have hszd' := Nat.le_trans hszd hCl
      clear hkk' hr2' hv2' hat hR hol hvl
      have z2 : ∀ o, (Wc.alloc o).cell? ⟨w.heap.size + 1 + 1, 0, none⟩ = some (.slice (some ⟨g', 0, none⟩) (ks.length + 1) cap') := fun o => (hC2.alloc o).cell
      have hlit := by_lit Wc #[.int .u8 47] [47] (0, 0) 1 rfl rfl (by decide)
      have hown := own_lit Wc 47
      have hBl := (Below.refl Wc.heap.size Wc).alloc (Nat.le_refl _) (.cells #[.int .u8 47] 5)
      have conJ := Join_any W1.heap.size cap' (ks.length + 1) (some ⟨g', 0, none⟩) (vs ++ [Value.slice none 0 0]) (ks ++ [[]]) (.slice (some ⟨Wc.heap.size, 0, none⟩) 1 1) (Wc.alloc (.cells #[.int .u8 47] 5)) (hCR.keep (Keep.alloc (fun _ => True) _ _) (fun _ _ => trivial)) hlit (by omega)
      have hWs : (Wc.alloc (.cells #[.int .u8 47] 5)).heap.size = Wc.heap.size + 1 := by simp
      refine ⟨trivial, (callsIn_wide.2 conJ).mono ?_⟩
      rintro e V ⟨v5, rfl, hJ, hb5⟩
      have hownV := (Keep.of_below hb5).row hown (fun k hk => (hown.lt k hk).2)
      have hbV := hBl.trans (hb5.mono hBl.size)
      have hVs := hb5.size
      have r0 := (Keep.of_below hbV).boxed hC0 hC0.lt
      have r1 := (Keep.of_below hbV).boxed hC1 hC1.lt
      have rD := (hbV.block D (Array.getElem?_eq_some_iff.1 hCK).1).trans hCK
      have hE8V := hCE.trans (hbV.mono hCE.size)
      have l0 := (Array.getElem?_eq_some_iff.1 hCK).1
      clear conJ hown hlit hb5 z2 hBl
      gi_wp2_with (gi_at_builtin; go_must (refine wpListIn_append_by rfl _ _ rfl Wc.heap.size _ 1 _ rfl hownV _ _ rfl hJ (by omega) hbV.size ?_); intro v6 X hr6 hg6; rw [← byV_app] at hr6; obtain ⟨q6, c6, rfl, _⟩ := row_open hr6; have k6 : ∀ S : Nat → Prop, (∀ b, S b → b < Wc.heap.size) → Keep S V X := (fun S hS => Keep.of_grownBy hg6 fun b hb h => (by have h1 := (hownV.lt b hb).1; have h2 := hS b h; omega)); have s0 := (k6 (fun b => b = w.heap.size) (fun b hb => by have := hC0.lt; omega)).boxed r0 rfl; have s1 := (k6 (fun b => b = w.heap.size + 1) (fun b hb => by have := hC1.lt; omega)).boxed r1 rfl; have sc0 := s0.cell; have sc1 := s1.cell; have sf0 := s0.frozen; have sf1 := s1.frozen)
      have k7 : ∀ S : Nat → Prop, ¬ S w.heap.size → ¬ S (w.heap.size + 1) → Keep S X ((X.setCell ⟨w.heap.size, 0, none⟩ (.slice q6 (1 + (Ref.joinL 47 (ks ++ [[]])).length) c6)).setCell ⟨w.heap.size + 1, 0, none⟩ (.int .i64 0)) := fun S h h' => (Keep.setCell _ _ _ h).trans (Keep.setCell _ _ _ h')
      have k8 : ∀ (S : Nat → Prop) (Y : World), ¬ S D → Keep S Y (Y.putObj D (.deferred none)) := fun S Y h => Keep.putObj _ _ _ h
      have hKd : ((X.setCell ⟨w.heap.size, 0, none⟩ (.slice q6 (1 + (Ref.joinL 47 (ks ++ [[]])).length) c6)).setCell ⟨w.heap.size + 1, 0, none⟩ (.int .i64 0)).heap[D]? = some (.deferred (some [])) := ((k6 (fun b => b = D) (fun b hb => by rw [hb]; exact l0)).trans (k7 (fun b => b = D) (by omega) (by omega))).heap rfl rD
      have q0 : Boxed ((X.setCell ⟨w.heap.size, 0, none⟩ (.slice q6 (1 + (Ref.joinL 47 (ks ++ [[]])).length) c6)).setCell ⟨w.heap.size + 1, 0, none⟩ (.int .i64 0)) w.heap.size 22 (.slice q6 (1 + (Ref.joinL 47 (ks ++ [[]])).length) c6) := (Keep.setCell (S := fun b => b = w.heap.size) _ ⟨w.heap.size + 1, 0, none⟩ _ (by simp)).boxed (s0.set _) rfl
      have q1 : Boxed ((X.setCell ⟨w.heap.size, 0, none⟩ (.slice q6 (1 + (Ref.joinL 47 (ks ++ [[]])).length) c6)).setCell ⟨w.heap.size + 1, 0, none⟩ (.int .i64 0)) (w.heap.size + 1) 43 (.int .i64 0) := ((Keep.setCell (S := fun b => b = w.heap.size + 1) X ⟨w.heap.size, 0, none⟩ _ (by simp)).boxed s1 rfl).set _
      refine ⟨by simp, .inl ⟨_, _, rfl, run_takeDeferred hKd, ?_⟩⟩
      refine ⟨_, results_path rfl _ _ w.heap.size (w.heap.size + 1) _ _ rfl rfl ((k8 (fun b => b = w.heap.size) _ (by omega)).boxed q0 rfl).cell ((k8 (fun b => b = w.heap.size + 1) _ (by omega)).boxed q1 rfl).cell, ?_⟩
      rw [HP.out]
      have hk9 : ∀ S : Nat → Prop, ¬ S w.heap.size → ¬ S (w.heap.size + 1) → ¬ S D → Keep S X (((X.setCell ⟨w.heap.size, 0, none⟩ (.slice q6 (1 + (Ref.joinL 47 (ks ++ [[]])).length) c6)).setCell ⟨w.heap.size + 1, 0, none⟩ (.int .i64 0)).putObj D (.deferred none)) := fun S h h' h'' => (k7 S h h').trans (k8 S _ h'')
      refine ⟨_, 0, rfl, Lib.hid rfl, ?_, ?_⟩
      · have hfin : (47 :: Ref.joinL 47 (ks ++ [[]])).length = 1 + (Ref.joinL 47 (ks ++ [[]])).length := by rw [List.length_cons]; omega
        show World.ownsRow _ w.heap.size 5 1 (.slice q6 (1 + (Ref.joinL 47 (ks ++ [[]])).length) c6) (47 :: Ref.joinL 47 (ks ++ [[]])).length (byV (47 :: Ref.joinL 47 (ks ++ [[]])))
        rw [hfin]
        exact row_base ((hk9 (fun b => Wc.heap.size ≤ b) (by have := hC0.lt; omega) (by have := hC1.lt; omega) (by omega)).row hr6 (fun b hb => (hr6.lt b hb).1)) (by have := hC0.lt; omega)
      · exact hE8V.trans (((k6 (fun b => b < w.heap.size) (fun b hb => by have := hC0.lt; omega)).trans (hk9 (fun b => b < w.heap.size) (by omega) (by omega) (by omega))).below hE8V.size)
  case stop =>
    rintro D cc pre rest Pv Wd hD hPD hPl hxs ⟨rfl, hge, hK1, hE0, hE1, HPN, hE4⟩ hK
    have kp : ∀ (S : Nat → Prop) (W : World), ¬ S D → Keep S W (W.putObj D (.deferred none)) := fun S W h => Keep.putObj _ _ _ h
    clear hxs
    have hgD := hge D hPD
    have hs1d := hK1.size
    gi_wp2
    refine ⟨by simp, .inl ⟨_, _, rfl, run_takeDeferred hK, ?_⟩⟩
    refine ⟨_, results_path rfl _ _ w.heap.size (w.heap.size + 1) _ _ rfl rfl ((kp (fun b => b = w.heap.size) _ (by omega)).boxed hE0 rfl).cell ((kp (fun b => b = w.heap.size + 1) _ (by omega)).boxed hE1 rfl).cell, ?_⟩
    rw [HPN.out]
    exact ⟨_, 2, rfl, Lib.hid rfl, World.ownsRow_nil _ _ _ _, hE4.trans ((kp (fun b => b < w.heap.size) _ (by omega)).below hE4.size)⟩
end Go.Proofs.YtedglpfdibamdaaGreatDoor.Url
namespace Go.Proofs.YtedglpfdibamdaaGreatDoor.Org
open Go.RowKit Go.Shelf Url
attribute [local go_sem] Oper.semAt_some
def orgV (s h : List UInt8) (p c : Int) : Value := .agg #[.string ⟨s.toArray⟩, .string ⟨h.toArray⟩, .int .i64 p, .int .i64 c]
def orgC (s h : List UInt8) (p c : Int) : Array Value := #[.string ⟨s.toArray⟩, .string ⟨h.toArray⟩, .int .i64 p, .int .i64 c]
def OB (B : Nat) (cs : Array Value) (X : World) : Prop := X.heap[B]? = some (.cells cs 25 (0, 0))
theorem OB.box {B : Nat} {cs : Array Value} {X : World} (h : OB B cs X) : Box B cs X := fun i x hx => by
  simp only [World.cell?, show X.heap[B]? = _ from h]; exact hx
theorem OB.frozen {B : Nat} {cs : Array Value} {X : World} (h : OB B cs X) (i : Nat) : X.frozen? ⟨B, i, none⟩ = false := by
  simp [World.frozen?, show X.heap[B]? = _ from h]
theorem OB.on {B : Nat} {cs : Array Value} {X Y : World} (h : OB B cs X) (hk : Below X.heap.size X Y) : OB B cs Y := (hk.block B (Array.getElem?_eq_some_iff.1 h).1).trans h
theorem OB.lt {B : Nat} {cs : Array Value} {X : World} (h : OB B cs X) : B < X.heap.size := (Array.getElem?_eq_some_iff.1 h).1
theorem OB.new (w : World) (cs : Array Value) : OB w.heap.size cs (w.alloc (.cells cs 25)) := World.alloc_heap_new w _
theorem OB.set {B : Nat} {cs : Array Value} {X : World} (h : OB B cs X) (i : Nat) (v : Value) : OB B (cs.setIfInBounds i v) (X.setCell ⟨B, i, none⟩ v) := by
  obtain ⟨hlt, hk⟩ := Array.getElem?_eq_some_iff.1 h
  show (X.heap.modify B _)[B]? = _
  rw [Array.getElem?_eq_getElem (by rw [Array.size_modify]; exact hlt), Array.getElem_modify_self, hk]
  rfl
theorem OB.put {B : Nat} {X : World} {a0 a1 a2 a3 : Value} (h : OB B #[a0, a1, a2, a3] X) (v0 v1 v2 v3 : Value) :
    ∃ Y, (((X.setCell ⟨B, 0, none⟩ v0).setCell ⟨B, 1, none⟩ v1).setCell ⟨B, 2, none⟩ v2).setCell ⟨B, 3, none⟩ v3 = Y ∧
      OB B #[v0, v1, v2, v3] Y ∧ (∀ S : Nat → Prop, ¬ S B → Keep S X Y) ∧ ∀ M, M ≤ B → Below M X Y := by
  have h8 := (((h.set 0 v0).set 1 v1).set 2 v2).set 3 v3
  simp only [List.setIfInBounds_toArray, List.set_cons_zero, List.set_cons_succ] at h8
  refine ⟨_, rfl, h8, fun S hS => ?_, fun M hM => ?_⟩
  · exact (Keep.setCell _ _ _ hS).trans ((Keep.setCell _ _ _ hS).trans ((Keep.setCell _ _ _ hS).trans (Keep.setCell _ _ _ hS)))
  · exact ((((Below.refl M X).setCell (p := ⟨B, 0, none⟩) hM v0).setCell (p := ⟨B, 1, none⟩) hM v1).setCell (p := ⟨B, 2, none⟩) hM v2).setCell (p := ⟨B, 3, none⟩) hM v3
theorem size_org : (Tryz.prog.info? 25).map (·.size) = some 4 := by kernel_rfl
theorem ret_org {fn : Func} {p : Tmp} (h : fn.results = #[.cell p 25]) (tmps : Array Value) (w : World) (B : Nat) (cs : Array Value) (hp : tmps.getD p undef = .pointer (some ⟨B, 0, none⟩)) (hU : OB B cs w) (hs : cs.size = 4) :
    (results fn tmps).run Tryz.prog w = .ok (.agg cs) w :=
  results_cell_row h tmps w B _ cs (0, 0) _ hp hU Tryz.underlying25 rfl (by rw [size_org, hs])
theorem ret_org2 {fn : Func} {p u : Tmp} (h : fn.results = #[.cell p 25, .tmp u]) (tmps : Array Value) (w : World) (B : Nat) (cs : Array Value) (hp : tmps.getD p undef = .pointer (some ⟨B, 0, none⟩)) (hU : OB B cs w) (hs : cs.size = 4) :
    (results fn tmps).run Tryz.prog w = .ok (.tuple #[.agg cs, tmps.getD u undef]) w := by
  rw [results_cell_tmp h, hp]
  simp [asAddr, Result.andThen, run_loadVar_row w B 25 _ cs (0, 0) _ hU Tryz.underlying25 rfl (by rw [size_org, hs])]
theorem conv_back (w : World) (s : ByteArray) : (convert 9 22 (.string s)).run Tryz.prog w = .ok (.slice (some ⟨w.heap.size, 0, none⟩) s.size (grownCap w s.size 0 5)) (Lib.bytesWorld w 5 s) :=
  Lib.run_convert_string_bytes w 9 22 5 s Tryz.underlying9 Tryz.underlying22 Tryz.underlying5
theorem conv_new (w : World) (l : List UInt8) (hl : l.length ≤ 1099511627776) : ∃ c W, (convert 9 22 (.string ⟨l.toArray⟩)).run Tryz.prog w = .ok (.slice (some ⟨w.heap.size, 0, none⟩) l.length c) W ∧
    By W (.slice (some ⟨w.heap.size, 0, none⟩) l.length c) l ∧ Below w.heap.size w W ∧ W.heap.size = w.heap.size + 1 := by
  refine ⟨_, _, conv_back w ⟨l.toArray⟩, ?_, ⟨rfl, rfl, rfl, by rw [Lib.bytesWorld_size]; omega, fun k hk => Lib.bytesWorld_at_old w _ _ k hk⟩, Lib.bytesWorld_size w _ _⟩
  refine By.of rfl (grownCap_ge w _ _ _) (grownCap_le_maxLen w _ 0 _ (by unfold maxLen; show l.length ≤ _; omega)) (fun h => by cases h) ?_
  exact fun _ => ⟨w.heap.size, 0, rfl, fun i hi => by
    rw [numsL_getD _ i hi, Nat.zero_add]
    exact Lib.bytesWorld_cell w _ ⟨l.toArray⟩ i hi⟩
set_option maxRecDepth 100000 in
set_option maxHeartbeats 8000000 in
theorem Of_any (u : U) (v : Value) (w : World) (h : UrlIn w v u) :
    Calls Tryz.prog 78 #[v] w fun e w' => e = .returned (orgV u.scheme u.host u.port 0) ∧ Below w.heap.size w w' := by
  obtain ⟨q0, n0, c0, q1, n1, c1, q3, n3, c3, q4, n4, c4, q5, n5, c5, rfl, h0, h1, -, -, -⟩ := h
  obtain ⟨X, hX⟩ : ∃ X, (w.alloc (.cells #[.slice q0 n0 c0, .slice q1 n1 c1, .int .i64 u.port, .slice q3 n3 c3, .slice q4 n4 c4, .slice q5 n5 c5, .bool u.hq, .bool u.hf] 100)).alloc (.cells #[.string ⟨#[]⟩, .string ⟨#[]⟩, .int .i64 0, .int .i64 0] 25) = X := ⟨_, rfl⟩
  have B1 := (Below.refl _ w).alloc (Nat.le_refl _) (.cells #[.slice q0 n0 c0, .slice q1 n1 c1, .int .i64 u.port, .slice q3 n3 c3, .slice q4 n4 c4, .slice q5 n5 c5, .bool u.hq, .bool u.hf] 100)
  have B2 : Below w.heap.size w X := by rw [← hX]; exact B1.alloc B1.size _
  have hb : Box w.heap.size #[.slice q0 n0 c0, .slice q1 n1 c1, .int .i64 u.port, .slice q3 n3 c3, .slice q4 n4 c4, .slice q5 n5 c5, .bool u.hq, .bool u.hf] X := by rw [← hX]; exact (Box.new w _ _).on ((Below.refl _ _).alloc (Nat.le_refl _) _)
  have hO : OB (w.heap.size + 1) #[.string ⟨#[]⟩, .string ⟨#[]⟩, .int .i64 0, .int .i64 0] X := by
    have := OB.new (w.alloc (.cells #[.slice q0 n0 c0, .slice q1 n1 c1, .int .i64 u.port, .slice q3 n3 c3, .slice q4 n4 c4, .slice q5 n5 c5, .bool u.hq, .bool u.hf] 100)) #[.string ⟨#[]⟩, .string ⟨#[]⟩, .int .i64 0, .int .i64 0]
    rw [World.size_alloc] at this
    rw [← hX]; exact this
  have k0 := conv_bytes (c := c0) (h0.on B2).at.2.2.2.2 (h0.on B2).at.1
  have k1 := conv_bytes (c := c1) (h1.on B2).at.2.2.2.2 (h1.on B2).at.1
  have b0 := hb 0 _ rfl
  have b1 := hb 1 _ rfl
  have b2 := hb 2 _ rfl
  have z0 := hO.box 0 _ rfl
  have z1 := hO.box 1 _ rfl
  have z2 := hO.box 2 _ rfl
  have z3 := hO.box 3 _ rfl
  have f0 := hO.frozen 0
  have f1 := hO.frozen 1
  have f2 := hO.frozen 2
  have f3 := hO.frozen 3
  clear h0 h1 B1 hb
  have HX := Lib.hid hX
  clear hX
  go_enter Tryz.func78, Tryz.ntmps78
  go_wp2_with fail
  rw [HX.out]
  go_wp2
  rw [k0]
  go_wp2
  obtain ⟨Y, hY, hU, hkY, hbY⟩ := OB.put hO (.string ⟨u.scheme.toArray⟩) (.string ⟨u.host.toArray⟩) (.int .i64 u.port) (.int .i64 0)
  rw [hY]
  (try simp only [Exit.inBlock, Exit.then])
  refine bodyPost_ret (ret_org rfl _ _ (w.heap.size + 1) _ rfl hU rfl) rfl ?_
  exact ⟨rfl, B2.trans (hbY _ (Nat.le_succ _))⟩
set_option maxRecDepth 100000 in
set_option maxHeartbeats 8000000 in
theorem Closed_any (n : Int) (w : World) :
    Calls Tryz.prog 113 #[.int .i64 n] w fun e w' => e = .returned (if n < 1 then .tuple #[orgV [] [] 0 0, .int .i64 13] else .tuple #[orgV [] [] 0 n, .int .i64 0]) ∧ Below w.heap.size w w' := by
  have B1 := fun cs => (Below.refl _ w).alloc (Nat.le_refl _) (.cells cs 25)
  by_cases hn : n < 1
  · have d1 : decide (n < 1) = true := by simp; omega
    rw [if_pos hn]
    clear hn
    go_enter Tryz.func113, Tryz.ntmps113
    go_wp2
    refine bodyPost_ret (ret_org2 rfl _ _ w.heap.size _ rfl (OB.new w _) rfl) rfl ?_
    exact ⟨rfl, B1 _⟩
  · have d1 : decide (n < 1) = false := by simp; omega
    rw [if_neg hn]
    clear hn
    go_enter Tryz.func113, Tryz.ntmps113
    go_wp2
    refine bodyPost_ret (ret_org2 rfl _ _ w.heap.size _ rfl (OB.new w _) rfl) rfl ?_
    exact ⟨rfl, B1 _⟩
set_option maxRecDepth 100000 in
set_option maxHeartbeats 8000000 in
theorem Text_zero (w : World) :
    Calls Tryz.prog 11 #[orgV [] [] 0 0] w fun e w' => e = .returned (.string ⟨#[]⟩) ∧ Below w.heap.size w w' := by
  have B1 := fun cs => (Below.refl _ w).alloc (Nat.le_refl _) (.cells cs 25)
  unfold orgV
  go_enter Tryz.func11, Tryz.ntmps11
  go_wp2
  go_ret
  exact ⟨rfl, B1 _⟩
theorem str_app (a b : List UInt8) : (⟨a.toArray⟩ ++ ⟨b.toArray⟩ : ByteArray) = ⟨(a ++ b).toArray⟩ := by
  apply ByteArray.ext; simp
theorem Itoa_any (n : Nat) (w : World) (hn : n ≤ 9223372036854775807) (hG : Gl w) :
    Calls Tryz.prog 28 #[.int .i64 (n : Int)] w fun e w' => e = .returned (.string ⟨(digL n).toArray⟩) ∧ Below w.heap.size w w' := by
  refine (Tryz.strconv_Itoa (n : Int) (by omega) (by omega) w hG.2).mono ?_
  rintro e w' ⟨rfl, k, os, rfl⟩
  refine ⟨by rw [Lib.itoa_nonneg, dig_dec10], ?_⟩
  have h := Url.below_drewN w k
  refine ⟨h.os, h.tape, h.output, ?_, fun j hj => ?_⟩
  · have := h.size; unfold Sort.grow; simp only [Array.size_append]; omega
  · unfold Sort.grow
    show ((w.drewN k).heap ++ os)[j]? = _
    have hlt : j < (w.drewN k).heap.size := Nat.lt_of_lt_of_le hj h.size
    rw [Array.getElem?_append_left hlt]
    exact h.block j hj
set_option maxRecDepth 100000 in
set_option maxHeartbeats 8000000 in
theorem Text_server (u : U) (hok : Ok u) (w : World) (hG : Gl w) :
    Calls Tryz.prog 11 #[orgV u.scheme u.host u.port 0] w fun e w' => e = .returned (.string ⟨(placeU u).toArray⟩) ∧ Below w.heap.size w w' := by
  unfold orgV
  obtain ⟨X, hX⟩ : ∃ X, w.alloc (.cells #[.string ⟨u.scheme.toArray⟩, .string ⟨u.host.toArray⟩, .int .i64 u.port, .int .i64 0] 25) = X := ⟨_, rfl⟩
  have B1 : Below w.heap.size w X := by rw [← hX]; exact (Below.refl _ w).alloc (Nat.le_refl _) _
  have hO : OB w.heap.size #[.string ⟨u.scheme.toArray⟩, .string ⟨u.host.toArray⟩, .int .i64 u.port, .int .i64 0] X := by rw [← hX]; exact OB.new w _
  have hsne : ¬ u.scheme = [] := by rcases hok.scheme with h | h <;> (rw [h]; decide)
  have HLS := Lib.hid (low_scheme u hok)
  have hsl : u.scheme.length ≤ 5 := by rcases hok.scheme with h | h <;> (rw [h]; decide)
  have hp2 := hok.port2
  have hhl : u.host.length ≤ 253 := by
    have h := hok.host
    unfold Host.parseE at h
    split at h
    · cases h
    · omega
  have hdl := dig_len u.port hp2
  have l1 : u.scheme.length ≤ 9223372036854775804 := by omega
  have l2 : u.scheme.length + 3 + u.host.length ≤ 9223372036854775807 := by omega
  have l3 : u.scheme.length + 3 + u.host.length ≤ 9223372036854775806 := by omega
  have l4 : u.scheme.length + 3 + u.host.length + 1 + (digL u.port).length ≤ 9223372036854775807 := by omega
  have HPT := Lib.hid (show placeU u = u.scheme ++ [58, 47, 47] ++ u.host ++ (if u.port = ownP u.scheme then [] else 58 :: digL u.port) from rfl)
  have HX := Lib.hid hX
  have HG := Lib.hid hG
  clear hX hok hG
  generalize placeU u = PL at *
  generalize u.scheme = S at *
  generalize u.host = H at *
  generalize u.port = p at *
  go_enter Tryz.func11, Tryz.ntmps11
  go_wp2_with fail
  rw [HX.out]
  refine pregion_any (Box w.heap.size #[.string ⟨S.toArray⟩, .string ⟨H.toArray⟩, .int .i64 p, .int .i64 0]) (by kernel_rfl) ?_
  have hS0 : Box w.heap.size #[.string ⟨S.toArray⟩, .string ⟨H.toArray⟩, .int .i64 p, .int .i64 0] X.drew := hO.box
  have hBd : Below w.heap.size w X.drew := B1.drew
  clear hO B1 HX
  generalize X.drew = Y at *
  refine wpAnyH_take (i := 0) (v := (.pointer (some ⟨w.heap.size, 2, none⟩))) rfl (by kernel_rfl) (by kernel_rfl) (by kernel_rfl) (fun _ _ _ h => h) (.inl ⟨by kernel_rfl, ?_⟩) hS0 ?_
  · rintro w h; go_simp <;> omega
  refine plist #[true, false, false, false, false, false, false, false] (by kernel_rfl) ?_
  refine wpAnyH_take (i := 1) (v := (.int .i64 p)) rfl (by kernel_rfl) (by kernel_rfl) (by kernel_rfl) (fun _ _ _ h => h) (.inl ⟨by kernel_rfl, ?_⟩) hS0 ?_
  · rintro w h; have h' := h 2 _ rfl; go_simp <;> omega
  refine plist #[true, true, false, false, false, false, false, false] (by kernel_rfl) ?_
  refine wpAnyH_take (i := 2) (v := (.pointer (some ⟨w.heap.size, 0, none⟩))) rfl (by kernel_rfl) (by kernel_rfl) (by kernel_rfl) (fun _ _ _ h => h) (.inl ⟨by kernel_rfl, ?_⟩) hS0 ?_
  · rintro w h; go_simp <;> omega
  refine plist #[true, true, true, false, false, false, false, false] (by kernel_rfl) ?_
  refine wpAnyH_take (i := 3) (v := (.string ⟨S.toArray⟩)) rfl (by kernel_rfl) (by kernel_rfl) (by kernel_rfl) (fun _ _ _ h => h) (.inl ⟨by kernel_rfl, ?_⟩) hS0 ?_
  · rintro w h; have h' := h 0 _ rfl; go_simp <;> omega
  refine plist #[true, true, true, true, false, false, false, false] (by kernel_rfl) ?_
  obtain ⟨c, Z, hrun, hby, hbel, -⟩ := conv_new Y S (by omega)
  refine pone 4 (by kernel_rfl) rfl fun K hK => ?_
  go_simp
  have hS1 := hS0.on hbel
  have hB1 := hBd.trans (hbel.mono hBd.size)
  refine hK _ _ hS1 ?_
  clear hK K
  refine plist #[true, true, true, true, true, false, false, false] (by kernel_rfl) ?_
  have con := Own_any (some ⟨Y.heap.size, 0, none⟩) S.length c S Z rfl (by omega) hby.at.2.2.2.2
  rw [HLS.out] at con
  refine pone 5 (by kernel_rfl) rfl fun K hK => ?_
  go_simp
  refine con.mono ?_
  rintro e V ⟨rfl, hb⟩
  have hS2 := hS1.on hb
  have hB2 := hB1.trans (hb.mono hB1.size)
  clear con hS0 hS1 hbel hby hrun hb hBd hB1
  refine hK _ _ hS2 ?_
  clear hK K
  refine plist #[true, true, true, true, true, true, false, false] (by kernel_rfl) ?_
  by_cases hpo : p = ownP S
  · have e5 : ((p : Int) == (ownP S : Int)) = true := by rw [beq_iff_eq]; omega
    have HR := Lib.hid (show PL = S ++ [58, 47, 47] ++ H by rw [HPT.out, if_pos hpo, List.append_nil])
    refine pone 6 (by kernel_rfl) rfl fun K hK => ?_
    go_simp
    refine hK _ _ hS2 ?_
    clear hK K
    refine plist #[true, true, true, true, true, true, true, false] (by kernel_rfl) ?_
    refine pone 7 (by kernel_rfl) rfl fun K hK => ?_
    go_simp
    refine hK _ _ hS2 ?_
    clear hK K
    refine pdone (by kernel_rfl) ?_ _
    have c0 := hS2 0 _ rfl
    have c1 := hS2 1 _ rfl
    clear hpo
    go_wp2
    go_ret
    exact ⟨congrArg (fun s => Ending.returned (Value.string s)) (by rw [HR.out, ← str_app, ← str_app]), hB2⟩
  · have e5 : ((p : Int) == (ownP S : Int)) = false := by rw [beq_eq_false_iff_ne]; omega
    have HR := Lib.hid (show PL = S ++ [58, 47, 47] ++ H ++ [58] ++ digL p by rw [HPT.out, if_neg hpo]; simp)
    refine pone 6 (by kernel_rfl) rfl fun K hK => ?_
    go_simp
    refine hK _ _ hS2 ?_
    clear hK K
    refine plist #[true, true, true, true, true, true, true, false] (by kernel_rfl) ?_
    refine pone 7 (by kernel_rfl) rfl fun K hK => ?_
    go_simp
    refine hK _ _ hS2 ?_
    clear hK K
    refine pdone (by kernel_rfl) ?_ _
    clear hpo
    go_wp2_with fail
    refine pregion_any (Box w.heap.size #[.string ⟨S.toArray⟩, .string ⟨H.toArray⟩, .int .i64 p, .int .i64 0]) (by kernel_rfl) ?_
    have hS3 : Box w.heap.size #[.string ⟨S.toArray⟩, .string ⟨H.toArray⟩, .int .i64 p, .int .i64 0] V.drew := hS2
    have hB3 : Below w.heap.size w V.drew := hB2.drew
    clear hS2 hB2 e5
    generalize V.drew = T at *
    refine wpAnyH_take (i := 0) (v := (.pointer (some ⟨w.heap.size, 0, none⟩))) rfl (by kernel_rfl) (by kernel_rfl) (by kernel_rfl) (fun _ _ _ h => h) (.inl ⟨by kernel_rfl, ?_⟩) hS3 ?_
    · rintro w h; go_simp <;> omega
    refine plist #[true, false, false, false, false, false, false, false, false, false, false, false] (by kernel_rfl) ?_
    refine wpAnyH_take (i := 1) (v := (.string ⟨S.toArray⟩)) rfl (by kernel_rfl) (by kernel_rfl) (by kernel_rfl) (fun _ _ _ h => h) (.inl ⟨by kernel_rfl, ?_⟩) hS3 ?_
    · rintro w h; have h' := h 0 _ rfl; go_simp <;> omega
    refine plist #[true, true, false, false, false, false, false, false, false, false, false, false] (by kernel_rfl) ?_
    refine wpAnyH_take (i := 2) (v := (.string (⟨S.toArray⟩ ++ ⟨#[58, 47, 47]⟩))) rfl (by kernel_rfl) (by kernel_rfl) (by kernel_rfl) (fun _ _ _ h => h) (.inl ⟨by kernel_rfl, ?_⟩) hS3 ?_
    · rintro w h; go_simp <;> omega
    refine plist #[true, true, true, false, false, false, false, false, false, false, false, false] (by kernel_rfl) ?_
    refine wpAnyH_take (i := 3) (v := (.pointer (some ⟨w.heap.size, 1, none⟩))) rfl (by kernel_rfl) (by kernel_rfl) (by kernel_rfl) (fun _ _ _ h => h) (.inl ⟨by kernel_rfl, ?_⟩) hS3 ?_
    · rintro w h; go_simp <;> omega
    refine plist #[true, true, true, true, false, false, false, false, false, false, false, false] (by kernel_rfl) ?_
    refine wpAnyH_take (i := 4) (v := (.string ⟨H.toArray⟩)) rfl (by kernel_rfl) (by kernel_rfl) (by kernel_rfl) (fun _ _ _ h => h) (.inl ⟨by kernel_rfl, ?_⟩) hS3 ?_
    · rintro w h; have h' := h 1 _ rfl; go_simp <;> omega
    refine plist #[true, true, true, true, true, false, false, false, false, false, false, false] (by kernel_rfl) ?_
    refine wpAnyH_take (i := 5) (v := (.string (⟨S.toArray⟩ ++ ⟨#[58, 47, 47]⟩ ++ ⟨H.toArray⟩))) rfl (by kernel_rfl) (by kernel_rfl) (by kernel_rfl) (fun _ _ _ h => h) (.inl ⟨by kernel_rfl, ?_⟩) hS3 ?_
    · rintro w h; go_simp <;> omega
    refine plist #[true, true, true, true, true, true, false, false, false, false, false, false] (by kernel_rfl) ?_
    refine wpAnyH_take (i := 6) (v := (.string (⟨S.toArray⟩ ++ ⟨#[58, 47, 47]⟩ ++ ⟨H.toArray⟩ ++ ⟨#[58]⟩))) rfl (by kernel_rfl) (by kernel_rfl) (by kernel_rfl) (fun _ _ _ h => h) (.inl ⟨by kernel_rfl, ?_⟩) hS3 ?_
    · rintro w h; go_simp <;> omega
    refine plist #[true, true, true, true, true, true, true, false, false, false, false, false] (by kernel_rfl) ?_
    refine wpAnyH_take (i := 7) (v := (.pointer (some ⟨w.heap.size, 2, none⟩))) rfl (by kernel_rfl) (by kernel_rfl) (by kernel_rfl) (fun _ _ _ h => h) (.inl ⟨by kernel_rfl, ?_⟩) hS3 ?_
    · rintro w h; go_simp <;> omega
    refine plist #[true, true, true, true, true, true, true, true, false, false, false, false] (by kernel_rfl) ?_
    refine wpAnyH_take (i := 8) (v := (.int .i64 p)) rfl (by kernel_rfl) (by kernel_rfl) (by kernel_rfl) (fun _ _ _ h => h) (.inl ⟨by kernel_rfl, ?_⟩) hS3 ?_
    · rintro w h; have h' := h 2 _ rfl; go_simp <;> omega
    refine plist #[true, true, true, true, true, true, true, true, true, false, false, false] (by kernel_rfl) ?_
    have con := Itoa_any p T (by omega) (HG.out.on hB3)
    refine pone 9 (by kernel_rfl) rfl fun K hK => ?_
    go_simp
    refine con.mono ?_
    rintro e V' ⟨rfl, hb⟩
    have hS4 := hS3.on hb
    have hB4 := hB3.trans (hb.mono hB3.size)
    clear con hS3 hb hB3
    refine hK _ _ hS4 ?_
    clear hK K
    refine plist #[true, true, true, true, true, true, true, true, true, true, false, false] (by kernel_rfl) ?_
    refine pone 10 (by kernel_rfl) rfl fun K hK => ?_
    go_simp
    rw [if_neg (by omega), Oper.upon_value]
    refine hK _ _ hS4 ?_
    clear hK K
    refine plist #[true, true, true, true, true, true, true, true, true, true, true, false] (by kernel_rfl) ?_
    refine pone 11 (by kernel_rfl) rfl fun K hK => ?_
    go_simp
    refine hK _ _ hS4 ?_
    clear hK K
    refine pdone (by kernel_rfl) ?_ _
    clear hS4
    go_wp2
    go_ret
    exact ⟨congrArg (fun s => Ending.returned (Value.string s)) (by rw [HR.out, ← str_app, ← str_app, ← str_app, ← str_app]), hB4⟩
end Go.Proofs.YtedglpfdibamdaaGreatDoor.Org
namespace Go.Proofs.YtedglpfdibamdaaGreatDoor.Org
open Go.RowKit Go.Shelf Url
attribute [local go_sem] Oper.semAt_some
theorem dig_le : ∀ k n : Nat, 1 ≤ k → n < 10 ^ k → (digL n).length ≤ k
  | 0, n, h, _ => absurd h (by omega)
  | k + 1, n, _, h => by
    by_cases h1 : n < 10
    · rw [dig_small n h1]; simp
    · rw [dig_big n h1, List.length_append]
      have : n / 10 < 10 ^ k := by rw [Nat.pow_succ] at h; omega
      rcases Nat.eq_zero_or_pos k with hk | hk
      · subst hk; omega
      · have := dig_le k (n / 10) hk this
        simp only [List.length_cons, List.length_nil]; omega
set_option maxRecDepth 100000 in
set_option maxHeartbeats 8000000 in
theorem Text_closed (n : Nat) (h1 : 1 ≤ n) (h2 : n ≤ 9223372036854775807) (w : World) (hG : Gl w) :
    Calls Tryz.prog 11 #[orgV [] [] 0 (n : Int)] w fun e w' => e = .returned (.string ⟨(closedS ++ digL n).toArray⟩) ∧ Below w.heap.size w w' := by
  unfold orgV
  obtain ⟨X, hX⟩ : ∃ X, w.alloc (.cells #[.string ⟨#[]⟩, .string ⟨#[]⟩, .int .i64 0, .int .i64 (n : Int)] 25) = X := ⟨_, rfl⟩
  have B1 : Below w.heap.size w X := by rw [← hX]; exact (Below.refl _ w).alloc (Nat.le_refl _) _
  have hO : OB w.heap.size #[.string ⟨#[]⟩, .string ⟨#[]⟩, .int .i64 0, .int .i64 (n : Int)] X := by rw [← hX]; exact OB.new w _
  have hdl : (digL n).length ≤ 19 := dig_le 19 n (by decide) (by omega)
  have c3 := hO.box 3 _ rfl
  have con := Itoa_any n X h2 (hG.on B1)
  have HX := Lib.hid hX
  have e0 : ((n : Int) == 0) = false := by rw [beq_eq_false_iff_ne]; omega
  have e1 : ((n : Int) != 0) = true := by rw [bne_iff_ne]; omega
  have l1 : 7 + (digL n).length ≤ 9223372036854775807 := by omega
  clear hX hG h1 h2 hdl
  generalize digL n = D at *
  go_enter Tryz.func11, Tryz.ntmps11
  go_wp2_with fail
  rw [HX.out]
  refine con.mono ?_
  rintro e w' ⟨rfl, hb⟩
  have B2 := B1.trans (hb.mono B1.size)
  clear con hb B1 c3 hO HX
  go_wp2
  go_ret
  exact ⟨congrArg (fun s => Ending.returned (Value.string s)) (by rw [← str_app]; rfl), B2⟩
def retQ : Sum Int (Sum Nat U) → Value
  | .inl m => .tuple #[orgV [] [] 0 0, .int .i64 m]
  | .inr (.inl n) => .tuple #[orgV [] [] 0 (n : Int), .int .i64 0]
  | .inr (.inr u) => .tuple #[orgV u.scheme u.host u.port 0, .int .i64 0]
theorem closed_num (most : Nat) (l : List UInt8) : closedQ most l = if (numOf most l).getD 0 < 1 then .inl 2 else .inr (.inl ((numOf most l).getD 0).toNat) := by
  unfold closedQ
  rw [numOf_ref]
  cases h : Ref.numOf most l with
  | none => rfl
  | some n =>
    simp only [Option.getD_some]
    by_cases hn : n < 1
    · rw [if_neg (by omega), if_pos hn]
    · rw [if_pos (by omega), if_neg hn]
set_option maxRecDepth 100000 in
set_option maxHeartbeats 8000000 in
theorem parseClosed_any (q : Option Addr) (n c : Nat) (l : List UInt8) (most : Nat) (w : World) (hby : By w (.slice q n c) l) (hn : n ≤ 4096) (hm : most ≤ 9223372036854775807) :
    Calls Tryz.prog 75 #[.slice q n c, .int .i64 (most : Int)] w fun e w' => e = .returned (retQ (closedQ most l)) ∧ Below w.heap.size w w' := by
  obtain ⟨X, hX⟩ : ∃ X, w.alloc (.cells #[.string ⟨#[]⟩, .string ⟨#[]⟩, .int .i64 0, .int .i64 0] 25) = X := ⟨_, rfl⟩
  have B1 : Below w.heap.size w X := by rw [← hX]; exact (Below.refl _ w).alloc (Nat.le_refl _) _
  have hO : OB w.heap.size #[.string ⟨#[]⟩, .string ⟨#[]⟩, .int .i64 0, .int .i64 0] X := by rw [← hX]; exact OB.new w _
  have con1 := Number_any q n c l (most : Int) X hby.at.1 (by omega) (hby.on B1).at.2.2.2.2 (by omega) (by omega)
  unfold numV at con1
  rw [closed_num]
  generalize (numOf (most : Int) l).getD 0 = k at *
  generalize (numOf (most : Int) l).isSome = bo at *
  have con2 := Closed_any k X
  have HX := Lib.hid hX
  clear hX hby
  unfold orgV at con2
  by_cases hk : k < 1
  · rw [if_pos hk] at con2 ⊢
    clear hk
    go_enter Tryz.func75, Tryz.ntmps75
    go_wp2_with fail
    rw [HX.out]
    refine con1.mono ?_
    rintro e w1 ⟨rfl, rfl⟩
    clear con1
    go_wp2_with fail
    refine con2.mono ?_
    rintro e w2 ⟨rfl, hb⟩
    have B2 := B1.trans (hb.mono B1.size)
    have hO2 := hO.on hb
    clear con2 hb hO B1 HX
    have A3 := (Below.refl _ w2).alloc (Nat.le_refl _) (.cells #[.string ⟨#[]⟩, .string ⟨#[]⟩, .int .i64 0, .int .i64 0] 25)
    have B3 := B2.trans (A3.mono B2.size)
    have hO3 := hO2.on A3
    have hN := OB.new w2 #[.string ⟨#[]⟩, .string ⟨#[]⟩, .int .i64 0, .int .i64 0]
    have n0 := hN.box 0 _ rfl
    have n1 := hN.box 1 _ rfl
    have n2 := hN.box 2 _ rfl
    have n3 := hN.box 3 _ rfl
    have z0 := hO3.box 0 _ rfl
    have z1 := hO3.box 1 _ rfl
    have z2 := hO3.box 2 _ rfl
    have z3 := hO3.box 3 _ rfl
    have f0 := hO3.frozen 0
    have f1 := hO3.frozen 1
    have f2 := hO3.frozen 2
    have f3 := hO3.frozen 3
    go_wp2
    obtain ⟨Y, hY, hU, hkY, hbY⟩ := OB.put hO3 (.string ⟨#[]⟩) (.string ⟨#[]⟩) (.int .i64 0) (.int .i64 0)
    rw [hY]
    (try simp only [Exit.inBlock, Exit.then])
    refine bodyPost_ret (ret_org2 rfl _ _ w.heap.size _ rfl hU rfl) rfl ?_
    exact ⟨rfl, B3.trans (hbY _ (Nat.le_refl _))⟩
  · rw [if_neg hk] at con2 ⊢
    have HK := Lib.hid (show ((k.toNat : Int)) = k by omega)
    clear hk
    go_enter Tryz.func75, Tryz.ntmps75
    go_wp2_with fail
    rw [HX.out]
    refine con1.mono ?_
    rintro e w1 ⟨rfl, rfl⟩
    clear con1
    go_wp2_with fail
    refine con2.mono ?_
    rintro e w2 ⟨rfl, hb⟩
    have B2 := B1.trans (hb.mono B1.size)
    have hO2 := hO.on hb
    clear con2 hb hO B1 HX
    have A3 := (Below.refl _ w2).alloc (Nat.le_refl _) (.cells #[.string ⟨#[]⟩, .string ⟨#[]⟩, .int .i64 0, .int .i64 k] 25)
    have B3 := B2.trans (A3.mono B2.size)
    have hO3 := hO2.on A3
    have hN := OB.new w2 #[.string ⟨#[]⟩, .string ⟨#[]⟩, .int .i64 0, .int .i64 k]
    have n0 := hN.box 0 _ rfl
    have n1 := hN.box 1 _ rfl
    have n2 := hN.box 2 _ rfl
    have n3 := hN.box 3 _ rfl
    have z0 := hO3.box 0 _ rfl
    have z1 := hO3.box 1 _ rfl
    have z2 := hO3.box 2 _ rfl
    have z3 := hO3.box 3 _ rfl
    have f0 := hO3.frozen 0
    have f1 := hO3.frozen 1
    have f2 := hO3.frozen 2
    have f3 := hO3.frozen 3
    go_wp2
    obtain ⟨Y, hY, hU, hkY, hbY⟩ := OB.put hO3 (.string ⟨#[]⟩) (.string ⟨#[]⟩) (.int .i64 0) (.int .i64 k)
    rw [hY]
    (try simp only [Exit.inBlock, Exit.then])
    refine bodyPost_ret (ret_org2 rfl _ _ w.heap.size _ rfl hU rfl) rfl ?_
    exact ⟨by unfold retQ orgV; simp only; rw [HK.out]; rfl, B3.trans (hbY _ (Nat.le_refl _))⟩
end Go.Proofs.YtedglpfdibamdaaGreatDoor.Org
namespace Go.Proofs.YtedglpfdibamdaaGreatDoor.Url
open Go.RowKit Go.Shelf
attribute [local go_sem] Oper.semAt_some
def canonU (t : List UInt8) : Sum Int U := match sepL t with
  | none => .inl 15
  | some (s, r) => if Ref.lowL s = httpS ∨ Ref.lowL s = httpsS then restU (Ref.lowL s) r else .inl 15
theorem parse_canon (t : List UInt8) (h : t.length ≤ 4096) : parseU t = canonU t := by
  unfold parseU canonU; rw [if_neg (by omega)]; rfl
theorem canon_none (t : List UInt8) (h : sepL t = none) : canonU t = .inl 15 := by unfold canonU; rw [h]
theorem own_zero (s : List UInt8) : ownP s = 0 ↔ ¬ (s = httpS ∨ s = httpsS) := by
  unfold ownP
  by_cases h1 : s = httpS
  · simp [h1]
  · by_cases h2 : s = httpsS
    · rw [if_neg h1, if_pos h2]; simp [h2]
    · rw [if_neg h1, if_neg h2]; simp [h1, h2]
theorem canon_other (t s r : List UInt8) (h : sepL t = some (s, r)) (ho : ownP (Ref.lowL s) = 0) : canonU t = .inl 15 := by
  unfold canonU; rw [h]; exact if_neg ((own_zero _).1 ho)
theorem canon_rest (t s r : List UInt8) (h : sepL t = some (s, r)) (ho : ownP (Ref.lowL s) ≠ 0) : canonU t = restU (Ref.lowL s) r := by
  unfold canonU; rw [h]; exact if_pos (Decidable.not_not.1 fun hn => ho ((own_zero _).2 hn))
theorem ahead_drop (c : UInt8) (l : List UInt8) : l.drop (aheadL c l).length = [] ∨ ∃ r, l.drop (aheadL c l).length = c :: r := by
  by_cases h : c ∈ l
  · obtain ⟨x, y, rfl, hx⟩ := List.eq_append_cons_of_mem h
    rw [(ahead_yes c x y hx).1]
    exact .inr ⟨y, by simp⟩
  · rw [(ahead_no c l h).1]
    exact .inl (by simp)
def srvL (r : List UInt8) : List UInt8 := aheadL 47 (atFst 63 (atFst 35 r))
def pthL (r : List UInt8) : List UInt8 := (atFst 63 (atFst 35 r)).drop (srvL r).length
def portC (s d : List UInt8) (hp : Bool) : Int := if hp = true then (numOf 65535 d).getD 0 else (ownP s : Int)
def optC (b : Bool) (l : List UInt8) : Option (List UInt8) := if b = true then formL 2 l else some []
def portX (s d : List UInt8) (hp : Bool) : Option Nat := if 1 ≤ portC s d hp then some (portC s d hp).toNat else none
theorem rest_core (s r : List UInt8) (hs : s = httpS ∨ s = httpsS) : restU s r = if Host.parseE (atFst 58 (srvL r)) ≠ 0 then .inl (Host.parseE (atFst 58 (srvL r))) else
    match portX s (atSnd 58 (srvL r)) (atOk 58 (srvL r)), pathL (pthL r), optC (atOk 63 (atFst 35 r)) (atSnd 63 (atFst 35 r)), optC (atOk 35 r) (atSnd 35 r) with
    | some n, some p, some q, some f => .inr ⟨s, Ref.lowL (atFst 58 (srvL r)), n, p, q, f, atOk 63 (atFst 35 r), atOk 35 r⟩
    | _, _, _, _ => .inl 2 := by
  have e1 := (at_ahead 35 r).1
  have e2 := (at_ahead 63 (atFst 35 r)).1
  have e3 := (at_ahead 58 (srvL r)).1
  have ho : ∀ (c : UInt8) (l : List UInt8), optL (Host.tailL c l) = optC (atOk c l) (atSnd c l) ∧ (Host.tailL c l).isSome = atOk c l := fun c l => by
    rw [(at_ahead c l).2.1]
    cases atOk c l <;> exact ⟨rfl, rfl⟩
  have hp : portL s (Host.tailL 58 (srvL r)) = portX s (atSnd 58 (srvL r)) (atOk 58 (srvL r)) := by
    rw [(at_ahead 58 (srvL r)).2.1]
    unfold portX portC
    cases atOk 58 (srvL r) with
    | false =>
      have := (own_pos s hs).1
      simp only [Bool.false_eq_true, if_false]
      rw [portL, if_pos (by omega)]; simp
    | true =>
      simp only [if_true]
      rw [portL, numOf_ref]
      cases Ref.numOf 65535 (atSnd 58 (srvL r)) <;> rfl
  have x1 : aheadL 47 (aheadL 63 (aheadL 35 r)) = srvL r := by unfold srvL; rw [e2, e1]
  have x2 : (aheadL 63 (aheadL 35 r)).drop (srvL r).length = pthL r := by unfold pthL; rw [e2, e1]
  conv => lhs; unfold restU
  simp only
  rw [x1, x2, ← e3, hp, (ho 35 r).1, (ho 35 r).2, ← e1, (ho 63 _).1, (ho 63 _).2]
  rfl
theorem rest_host (s r : List UInt8) (hs : s = httpS ∨ s = httpsS) (h : Host.parseE (atFst 58 (srvL r)) ≠ 0) : restU s r = .inl (Host.parseE (atFst 58 (srvL r))) := by rw [rest_core s r hs, if_pos h]
theorem numGo_nonneg (most : Int) : ∀ (l : List UInt8) (n m : Int), Ref.numGo most l n = some m → 0 ≤ n → 0 ≤ m
  | [], n, m, h, h0 => by rw [Ref.numGo] at h; cases h; exact h0
  | b :: r, n, m, h, h0 => by
    rw [Ref.numGo] at h
    split at h
    · rename_i hc
      have := (Ref.decB_of b).1 hc.1
      exact numGo_nonneg most r _ m h (by omega)
    · cases h
theorem rest_good (s r : List UInt8) (hs : s = httpS ∨ s = httpsS) (h : Host.parseE (atFst 58 (srvL r)) = 0) (p q f : List UInt8) (h1 : portC s (atSnd 58 (srvL r)) (atOk 58 (srvL r)) ≠ 0) (h2 : pathL (pthL r) = some p) (h3 : optC (atOk 63 (atFst 35 r)) (atSnd 63 (atFst 35 r)) = some q) (h4 : optC (atOk 35 r) (atSnd 35 r) = some f) :
    ∃ n : Nat, portC s (atSnd 58 (srvL r)) (atOk 58 (srvL r)) = (n : Int) ∧ restU s r = .inr ⟨s, Ref.lowL (atFst 58 (srvL r)), n, p, q, f, atOk 63 (atFst 35 r), atOk 35 r⟩ := by
  have hge : 0 ≤ portC s (atSnd 58 (srvL r)) (atOk 58 (srvL r)) := by
    unfold portC
    split
    · rw [numOf_ref]
      cases hn : Ref.numOf 65535 (atSnd 58 (srvL r)) with
      | none => simp
      | some m =>
        unfold Ref.numOf at hn
        split at hn
        · cases hn
        · have := numGo_nonneg 65535 _ _ _ hn (by omega); simp; omega
    · omega
  refine ⟨_, (Int.toNat_of_nonneg hge).symm, ?_⟩
  have hx : portX s (atSnd 58 (srvL r)) (atOk 58 (srvL r)) = some (portC s (atSnd 58 (srvL r)) (atOk 58 (srvL r))).toNat := by unfold portX; rw [if_pos (by omega)]
  rw [rest_core s r hs, if_neg (by rw [h]; simp), hx, h2, h3, h4]
theorem rest_port (s r : List UInt8) (hs : s = httpS ∨ s = httpsS) (h : Host.parseE (atFst 58 (srvL r)) = 0) (h1 : portC s (atSnd 58 (srvL r)) (atOk 58 (srvL r)) = 0) : restU s r = .inl 2 := by
  have hx : portX s (atSnd 58 (srvL r)) (atOk 58 (srvL r)) = none := by unfold portX; rw [if_neg (by omega)]
  rw [rest_core s r hs, if_neg (by rw [h]; simp), hx]
theorem rest_path (s r : List UInt8) (hs : s = httpS ∨ s = httpsS) (h : Host.parseE (atFst 58 (srvL r)) = 0) (h2 : pathL (pthL r) = none) : restU s r = .inl 2 := by
  rw [rest_core s r hs, if_neg (by rw [h]; simp), h2]
  cases portX s (atSnd 58 (srvL r)) (atOk 58 (srvL r)) <;> rfl
theorem rest_query (s r : List UInt8) (hs : s = httpS ∨ s = httpsS) (h : Host.parseE (atFst 58 (srvL r)) = 0) (h3 : optC (atOk 63 (atFst 35 r)) (atSnd 63 (atFst 35 r)) = none) : restU s r = .inl 2 := by
  rw [rest_core s r hs, if_neg (by rw [h]; simp), h3]
  cases portX s (atSnd 58 (srvL r)) (atOk 58 (srvL r)) <;> cases pathL (pthL r) <;> rfl
theorem rest_frag (s r : List UInt8) (hs : s = httpS ∨ s = httpsS) (h : Host.parseE (atFst 58 (srvL r)) = 0) (h4 : optC (atOk 35 r) (atSnd 35 r) = none) : restU s r = .inl 2 := by
  rw [rest_core s r hs, if_neg (by rw [h]; simp), h4]
  cases portX s (atSnd 58 (srvL r)) (atOk 58 (srvL r)) <;> cases pathL (pthL r) <;> cases optC (atOk 63 (atFst 35 r)) (atSnd 63 (atFst 35 r)) <;> rfl
def CanonOut : Sum Int U → World → Ending → World → Prop
  | .inl n, w, e, w' => n ≠ 0 ∧ e = .returned (.tuple #[.agg zeroU, .int .i64 n]) ∧ Below w.heap.size w w'
  | .inr u, w, e, w' => ∃ v, e = .returned (.tuple #[v, .int .i64 0]) ∧ UrlIn w' v u ∧ Below w.heap.size w w'
theorem By.set {B i : Nat} {cs : Array Value} {X : World} {v u : Value} {l : List UInt8} (h : By X v l) (hU : UB B cs X) (hcs : ∀ (j : Nat) (x : Value), cs[j]? = some x → ∀ z : Int, x ≠ .int .u8 z) : By (X.setCell ⟨B, i, none⟩ u) v l := by
  obtain ⟨q, c, rfl, h2, h3, h4, h5⟩ := h
  refine ⟨q, c, rfl, h2, h3, h4, fun h0 => ?_⟩
  obtain ⟨b, o, he, hc⟩ := h5 h0
  refine ⟨b, o, he, fun j hj => ?_⟩
  have hne : b ≠ B := fun e => by
    subst e
    have h1 := hc j hj
    simp only [World.cell?, show X.heap[b]? = _ from hU] at h1
    exact hcs _ _ h1 _ rfl
  exact (World.cell?_of_block ((Keep.setCell (S := fun k => k ≠ B) X ⟨B, i, none⟩ u (fun h => h rfl)).block b (World.block_lt_of_cell? X _ (hc j hj)) hne)).trans (hc j hj)
theorem UB.other {B C i : Nat} {cs : Array Value} {X : World} (h : UB B cs X) (hne : B ≠ C) (u : Value) : UB B cs (X.setCell ⟨C, i, none⟩ u) :=
  ((Keep.setCell (S := fun k => k = B) X ⟨C, i, none⟩ u (fun h => hne h.symm)).block B h.lt rfl).trans h
theorem nb8 {a0 a1 a3 a4 a5 : Value} {p : Int} {b c : Bool} (h0 : ∃ q n c, a0 = .slice q n c) (h1 : ∃ q n c, a1 = .slice q n c) (h3 : ∃ q n c, a3 = .slice q n c) (h4 : ∃ q n c, a4 = .slice q n c) (h5 : ∃ q n c, a5 = .slice q n c) :
    ∀ (j : Nat) x, (#[a0, a1, .int .i64 p, a3, a4, a5, .bool b, .bool c] : Array Value)[j]? = some x → ∀ z, x ≠ .int .u8 z := by
  obtain ⟨_, _, _, rfl⟩ := h0
  obtain ⟨_, _, _, rfl⟩ := h1
  obtain ⟨_, _, _, rfl⟩ := h3
  obtain ⟨_, _, _, rfl⟩ := h4
  obtain ⟨_, _, _, rfl⟩ := h5
  intro j x hx z he
  subst he
  match j, hx with
  | 0, hx => simp at hx
  | 1, hx => simp at hx
  | 2, hx => simp at hx
  | 3, hx => simp at hx
  | 4, hx => simp at hx
  | 5, hx => simp at hx
  | 6, hx => simp at hx
  | 7, hx => simp at hx
  | n + 8, hx => simp at hx
end Go.Proofs.YtedglpfdibamdaaGreatDoor.Url
