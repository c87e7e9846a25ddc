/- The texts that these laws rest on, put together, part 3. Conditions: as each says. -/
import Derived.Test.YtniehbjoogaccaaGreatDoorBaseB
import Derived.ChangeSlices
import Derived.ChangeSame
import Derived.Lib.AppendZerosOnto
import Derived.Laws.AppendOwn
import Derived.Test.YtniehbjoogaccaaGreatDoorCards
import Derived.Test.YtniehbjoogaccaaGreatDoorTie
import Derived.ProofKit
import Derived.OpenShut
import Derived.ShutString
import Derived.ChangeOld
import Derived.Deep.DeepHandedRow
import Derived.Lib.LaidTab
import Derived.Stop.LaidErr
import Derived.LaidMore
import Derived.Lib.ConvBytes
import Derived.Laws.ResultCell
import Derived.Laws.Rows
import Derived.Lib.Join
import Derived.MapKept
import Derived.Laws.IdiomRangeMap
namespace Go.Proofs.YtniehbjoogaccaaGreatDoor.Jar
open Go.RowKit Go.Shelf Go.ChangeShapes Go.WideShapes Url
set_option linter.unusedVariables false
def Row8 (w : World) (a : Option Addr) (len cap : Nat) (zs : List Int) : Prop :=
  (a = none ∧ len = 0 ∧ cap = 0 ∧ zs = []) ∨
  ∃ x, a = some x ∧ len ≤ cap ∧ cap ≤ maxLen ∧ len ≤ zs.length ∧ zs.length ≤ cap ∧ (∀ i, i < zs.length → w.cell? (x.add i) = some (.int .u8 (zs.getD i 0))) ∧ ∀ n ∈ zs, (Lit.int .u8 n).wf = true
def IsAct (w : World) (p : Addr) : Prop := ∃ (k m : Int) (q1 : Option Addr) (n1 c1 : Nat) (z1 : List Int) (q2 : Option Addr) (n2 c2 : Nat) (z2 : List Int) (q3 : Option Addr) (n3 c3 : Nat) (z3 : List Int),
  w.cell? p = some (.int .i64 k) ∧ w.cell? (p.add 1) = some (.int .i64 m) ∧ w.cell? (p.add 2) = some (.slice q1 n1 c1) ∧ w.cell? (p.add 3) = some (.slice q2 n2 c2) ∧ w.cell? (p.add 4) = some (.slice q3 n3 c3) ∧
  ((Lit.int .i64 k).wf = true ∧ (Lit.int .i64 m).wf = true) ∧ Row8 w q1 n1 c1 z1 ∧ Row8 w q2 n2 c2 z2 ∧ Row8 w q3 n3 c3 z3
def IsActs (w : World) (a : Option Addr) (len cap : Nat) : Prop :=
  (a = none ∧ len = 0 ∧ cap = 0) ∨ ∃ x, a = some x ∧ len ≤ cap ∧ cap ≤ maxLen ∧ ∀ i, i < len → IsAct w (x.add (i * 5))
theorem cells_five {w : World} {base : Nat} {a : Addr} {l : List Value} (h : w.cells? base a 5 = some l) : ∃ v0 v1 v2 v3 v4, l = [v0, v1, v2, v3, v4] ∧ w.cell? a = some v0 ∧ w.cell? (a.add 1) = some v1 ∧ w.cell? (a.add 2) = some v2 ∧ w.cell? (a.add 3) = some v3 ∧ w.cell? (a.add 4) = some v4 := by
  unfold World.cells? at h
  split at h
  · rw [show List.range 5 = [0, 1, 2, 3, 4] from rfl] at h
    simp only [List.mapM_cons, List.mapM_nil, Option.pure_def, Option.bind_eq_bind, Option.bind_eq_some_iff] at h
    obtain ⟨v0, h0, l1, ⟨v1, h1, l2, ⟨v2, h2, l3, ⟨v3, h3, l4, ⟨v4, h4, l5, e5, e4⟩, e3⟩, e2⟩, e1⟩, e0⟩ := h
    cases e5; cases e4; cases e3; cases e2; cases e1; cases e0
    refine ⟨v0, v1, v2, v3, v4, rfl, ?_, h1, h2, h3, h4⟩
    rw [← h0]; simp [Addr.add]
  · cases h
theorem open_row8 {H : Type} {enc : TypeId × Value → H} {w : World} {base : Nat} {spare : Nat → Bool} {held : Bool} {fuel : Nat} {v : Value} {x : DataW H × List MemPlace} (h : DataW.trod enc Tryz.prog w base spare held fuel 29 [v] = some x) :
    ∃ (q : Option Addr) (n c : Nat) (z : List Int), v = .slice q n c ∧ Row8 w q n c z := by
  rcases open_ints Tryz.underlying29 Tryz.underlying5 (by kernel_rfl) h with ⟨hcs, _⟩ | ⟨a, l, c, zs, hcs, _, hl, hm, hz, _, hcell, hwz⟩
  · cases hcs
    exact ⟨none, 0, 0, [], rfl, .inl ⟨rfl, rfl, rfl, rfl⟩⟩
  · cases hcs
    refine ⟨some a, l, c, zs, rfl, .inr ⟨a, rfl, hl, hm, ?_, ?_, hcell, hwz⟩⟩
    · rw [hz]; split <;> omega
    · rw [hz]; split <;> omega
set_option maxRecDepth 100000 in
theorem open_act {H : Type} {enc : TypeId × Value → H} {w : World} {base : Nat} {spare : Nat → Bool} {held : Bool} {fuel : Nat} {p : Addr} {cs : List Value} {x : DataW H × List MemPlace} (hcs : w.cells? base p 5 = some cs) (h : DataW.trod enc Tryz.prog w base spare held fuel 31 cs = some x) :
    IsAct w p := by
  obtain ⟨v0, v1, v2, v3, v4, rfl, h0, h1, h2, h3, h4⟩ := cells_five hcs
  obtain ⟨xs, m, _, rfl, hl, hlen, hf⟩ := DataW.trod_struct Tryz.underlying31 h
  have e1 : Tryz.prog.cellsOf 3 = 1 := by kernel_rfl
  have e2 : Tryz.prog.cellsOf 29 = 1 := by kernel_rfl
  match xs, hlen with
  | [y0, y1, y2, y3, y4], _ =>
    have g0 : DataW.trod enc Tryz.prog w base spare held m 3 [v0] = some y0 := by simpa [e1] using hf 0 _ rfl
    have g1 : DataW.trod enc Tryz.prog w base spare held m 3 [v1] = some y1 := by simpa [e1] using hf 1 _ rfl
    have g2 : DataW.trod enc Tryz.prog w base spare held m 29 [v2] = some y2 := by simpa [e2] using hf 2 _ rfl
    have g3 : DataW.trod enc Tryz.prog w base spare held m 29 [v3] = some y3 := by simpa [e2] using hf 3 _ rfl
    have g4 : DataW.trod enc Tryz.prog w base spare held m 29 [v4] = some y4 := by simpa [e2] using hf 4 _ rfl
    obtain ⟨k0, e0, _, w0⟩ := DataW.trod_int Tryz.underlying3 g0
    obtain ⟨k1, e1, _, w1⟩ := DataW.trod_int Tryz.underlying3 g1
    cases e0; cases e1
    obtain ⟨q1, n1, c1, z1, rfl, r1⟩ := open_row8 g2
    obtain ⟨q2, n2, c2, z2, rfl, r2⟩ := open_row8 g3
    obtain ⟨q3, n3, c3, z3, rfl, r3⟩ := open_row8 g4
    exact ⟨k0, k1, q1, n1, c1, z1, q2, n2, c2, z2, q3, n3, c3, z3, h0, h1, h2, h3, h4, ⟨w0, w1⟩, r1, r2, r3⟩
set_option maxRecDepth 100000 in
theorem open_acts {H : Type} {enc : TypeId × Value → H} {w : World} {base : Nat} {spare : Nat → Bool} {held : Bool} {fuel : Nat} {a : Option Addr} {len cap : Nat} {x : DataW H × List MemPlace} (h : DataW.trod enc Tryz.prog w base spare held fuel 22 [.slice a len cap] = some x) :
    IsActs w a len cap := by
  rcases DataW.trod_slice Tryz.underlying22 h with ⟨h0, _⟩ | ⟨a', len', cap', elems, rest, n, _, hcs, _, _, hl, hm, hlen, hel, _, _⟩
  · cases h0
    exact .inl ⟨rfl, rfl, rfl⟩
  · cases hcs
    refine .inr ⟨a', rfl, hl, hm, fun i hi => ?_⟩
    have h2 := hel i hi
    obtain ⟨y, hy⟩ : ∃ y, elems[i]? = some y := ⟨_, List.getElem?_eq_getElem (by omega)⟩
    rw [hy, Option.bind_eq_some_iff] at h2
    obtain ⟨cs, hcs, hty⟩ := h2
    rw [show Tryz.prog.cellsOf 31 = 5 by kernel_rfl] at hcs
    exact open_act hcs hty
structure Ax where
  kind : Int
  now : Int
  at_ : List UInt8
  for_ : List UInt8
  set : List UInt8
def ActAt (w : World) (g o : Nat) (x : Ax) : Prop := ∃ (q1 : Option Addr) (n1 c1 : Nat) (q2 : Option Addr) (n2 c2 : Nat) (q3 : Option Addr) (n3 c3 : Nat),
  w.cell? ⟨g, o, none⟩ = some (.int .i64 x.kind) ∧ w.cell? ⟨g, o + 1, none⟩ = some (.int .i64 x.now) ∧ w.cell? ⟨g, o + 2, none⟩ = some (.slice q1 n1 c1) ∧ w.cell? ⟨g, o + 3, none⟩ = some (.slice q2 n2 c2) ∧ w.cell? ⟨g, o + 4, none⟩ = some (.slice q3 n3 c3) ∧
  ((-9223372036854775808 ≤ x.now ∧ x.now ≤ 9223372036854775807) ∧ -9223372036854775808 ≤ x.kind ∧ x.kind ≤ 9223372036854775807) ∧ By w (.slice q1 n1 c1) x.at_ ∧ By w (.slice q2 n2 c2) x.for_ ∧ By w (.slice q3 n3 c3) x.set
def ActsIn (w : World) (a : Option Addr) (n : Nat) (l : List Ax) : Prop := l.length = n ∧ (0 < n → ∃ g o, a = some ⟨g, o, none⟩ ∧ g < w.heap.size ∧ ∀ i x, l[i]? = some x → ActAt w g (o + i * 5) x)
theorem ActAt.on {w w' : World} {g o : Nat} {x : Ax} (h : ActAt w g o x) (hg : g < w.heap.size) (hb : Below w.heap.size w w') : ActAt w' g o x := by
  obtain ⟨q1, n1, c1, q2, n2, c2, q3, n3, c3, h0, h1, h2, h3, h4, h5, h6, h7, h8⟩ := h
  have e : ∀ k, w'.cell? ⟨g, k, none⟩ = w.cell? ⟨g, k, none⟩ := fun k => World.cell?_of_block (hb.block g hg)
  exact ⟨q1, n1, c1, q2, n2, c2, q3, n3, c3, (e _).trans h0, (e _).trans h1, (e _).trans h2, (e _).trans h3, (e _).trans h4, h5, h6.on hb, h7.on hb, h8.on hb⟩
theorem ActsIn.on {w w' : World} {a : Option Addr} {n : Nat} {l : List Ax} (h : ActsIn w a n l) (hb : Below w.heap.size w w') : ActsIn w' a n l := by
  refine ⟨h.1, fun h0 => ?_⟩
  obtain ⟨g, o, rfl, hg, hx⟩ := h.2 h0
  exact ⟨g, o, rfl, Nat.lt_of_lt_of_le hg hb.size, fun i x hi => (hx i x hi).on hg hb⟩
theorem addr_of {w : World} {x : Addr} {v : Value} (h : w.cell? x = some v) : ∃ b o, x = ⟨b, o, none⟩ ∧ b < w.heap.size := by
  obtain ⟨b, o, s⟩ := x
  cases s with
  | none => exact ⟨b, o, rfl, World.block_lt_of_cell? w _ h⟩
  | some s =>
    exfalso
    simp only [World.cell?] at h
    split at h
    · simp at h
    · cases h
theorem row8_by {w : World} {q : Option Addr} {n c : Nat} {zs : List Int} (h : Row8 w q n c zs) : ∃ bs : List UInt8, By w (.slice q n c) bs := by
  rcases h with ⟨rfl, rfl, rfl, rfl⟩ | ⟨x, rfl, h1, h2, h3, _, h4, h5⟩
  · exact ⟨[], by_nil w⟩
  · have hz : ∀ i, i < n → (Lib.numsL (Lib.bytesOf (zs.take n))).getD i 0 = zs.getD i 0 := fun i hi => by
      have hi' : i < zs.length := by omega
      have hw := bounds_u8 (h5 _ (List.getElem_mem hi'))
      have : (Lib.bytesOf (zs.take n)).getD i 0 = UInt8.ofNat (zs[i]).toNat := by
        simp [Lib.bytesOf, List.getD, hi, List.getElem?_eq_getElem hi']
      rw [numsL_getD _ _ (by simp [Lib.bytesOf]; omega), this, List.getD, List.getElem?_eq_getElem hi']
      simp only [Option.getD_some, UInt8.toNat_ofNat']
      omega
    refine ⟨Lib.bytesOf (zs.take n), By.of (by simp [Lib.bytesOf]; omega) h1 h2 (fun h => by cases h) (Lib.BytesIn.of_cells fun i hi => ?_)⟩
    rw [hz i hi]
    exact h4 i (by omega)
theorem addr_add_zero (x : Addr) : x.add 0 = x := by cases x; simp [Addr.add]
theorem list_of {α : Type} {P : Nat → α → Prop} : ∀ n : Nat, (∀ i, i < n → ∃ z, P i z) → ∃ zs : List α, zs.length = n ∧ ∀ i z, zs[i]? = some z → P i z
  | 0, _ => ⟨[], rfl, fun i z h => by simp at h⟩
  | n + 1, h => by
    obtain ⟨zs, h1, h2⟩ := list_of n (fun i hi => h i (by omega))
    obtain ⟨z, hz⟩ := h n (by omega)
    refine ⟨zs ++ [z], by simp [h1], fun i y hy => ?_⟩
    rcases Nat.lt_or_ge i n with hi | hi
    · rw [List.getElem?_append_left (by omega)] at hy
      exact h2 i y hy
    · rw [List.getElem?_append_right (by omega)] at hy
      have h0 : i - zs.length = 0 := by
        rcases Nat.eq_zero_or_pos (i - zs.length) with h | h
        · exact h
        · rw [List.getElem?_eq_none (by simp; omega)] at hy; cases hy
      rw [h0] at hy
      simp at hy
      subst hy
      rwa [show i = n by omega]
theorem wf_i64 {n : Int} (h : (Lit.int .i64 n).wf = true) : -9223372036854775808 ≤ n ∧ n ≤ 9223372036854775807 := bounds_i64 h
theorem act_at {w : World} {p : Addr} (h : IsAct w p) : ∃ x : Ax, ∃ g o, p = ⟨g, o, none⟩ ∧ g < w.heap.size ∧ ActAt w g o x := by
  obtain ⟨k, m, q1, n1, c1, z1, q2, n2, c2, z2, q3, n3, c3, z3, h0, h1, h2, h3, h4, ⟨w0, w1⟩, r1, r2, r3⟩ := h
  obtain ⟨g, o, rfl, hg⟩ := addr_of h0
  obtain ⟨b1, y1⟩ := row8_by r1
  obtain ⟨b2, y2⟩ := row8_by r2
  obtain ⟨b3, y3⟩ := row8_by r3
  rw [add_plain] at h1 h2 h3 h4
  exact ⟨⟨k, m, b1, b2, b3⟩, g, o, rfl, hg, q1, n1, c1, q2, n2, c2, q3, n3, c3, h0, h1, h2, h3, h4, ⟨wf_i64 w1, wf_i64 w0⟩, y1, y2, y3⟩
theorem acts_in {w : World} {a : Option Addr} {len cap : Nat} (h : IsActs w a len cap) : ∃ l : List Ax, ActsIn w a len l := by
  rcases h with ⟨rfl, rfl, rfl⟩ | ⟨x, rfl, hl, hm, hc⟩
  · exact ⟨[], rfl, fun h => absurd h (by omega)⟩
  · obtain ⟨l, h1, h2⟩ := list_of (P := fun i y => ∃ g o, x.add (i * 5) = ⟨g, o, none⟩ ∧ g < w.heap.size ∧ ActAt w g o y) len (fun i hi => act_at (hc i hi))
    refine ⟨l, h1, fun h0 => ?_⟩
    obtain ⟨y, hy⟩ : ∃ y, l[0]? = some y := ⟨_, List.getElem?_eq_getElem (by omega)⟩
    obtain ⟨g, o, hp, hg, -⟩ := h2 0 y hy
    rw [show x.add (0 * 5) = x from by rw [Nat.zero_mul]; exact addr_add_zero x] at hp
    subst hp
    refine ⟨g, o, rfl, hg, fun i z hz => ?_⟩
    obtain ⟨g', o', hp, _, hA⟩ := h2 i z hz
    rw [add_plain] at hp
    cases hp
    exact hA
end Go.Proofs.YtniehbjoogaccaaGreatDoor.Jar
namespace Go.Proofs.YtniehbjoogaccaaGreatDoor.Url
open Go.RowKit Go.Shelf
attribute [local go_sem] Oper.semAt_some
def byV (l : List UInt8) : List Value := (Lib.numsL l).map (Value.int .u8)
theorem byV_app (l m : List UInt8) : byV (l ++ m) = byV l ++ byV m := by simp [byV, Lib.numsL]
set_option maxRecDepth 100000 in
set_option maxHeartbeats 4000000 in
theorem Grow_nil (n : Nat) (w : World) (h0 : 0 < n) (hn : n ≤ 1099511627776) :
    Calls Tryz.prog 181 #[.slice none 0 0, .int .i64 n] w fun e w' => ∃ v, e = .returned v ∧ w'.ownsRow w.heap.size 5 1 v 0 [] ∧ Below w.heap.size w w' := by
  obtain ⟨i0, hi0, hz0, hz1, hz2⟩ := info_parts info_u8
  have h1 : ¬ ((n : Int) < 0) := by omega
  have h4 : (n : Int) > 0 := by omega
  have h4' : decide (0 < n) = true := by simp; omega
  have hold : (Builtin.firstCells i0.size 0 (.slice none 0 0)).run Tryz.prog w.drew = .ok ([] : List Value).toArray w.drew := run_firstCells_none w.drew i0.size 0 0 0
  have hrz := Lib.run_append_grow_zeros (P := Tryz.prog) w 29 3 29 5 i0 (.int .u8 0) .i64 .i64 Tryz.underlying29 Tryz.underlying3 hi0 hz0 none 0 0 [] hold n h0 (by omega) (by omega) (by omega) (by rw [hz2]; omega)
    (growslice_fits (by omega) (by rw [hz2]; omega))
  simp only [Nat.zero_add] at hrz
  have hG : n ≤ grownCap w n 0 5 := grownCap_ge w _ _ _
  have hGm : grownCap w n 0 5 ≤ maxLen := grownCap_le_maxLen w n 0 5 (by unfold maxLen; omega)
  have hz : ∀ k, (Builtin.zeroCells (Value.int IntKind.u8 0).cells k).size = k := fun k => by simp [Builtin.zeroCells, Value.cells]
  have hsz : (([] : List Value).toArray ++ Builtin.zeroCells (Value.int IntKind.u8 0).cells n ++ Builtin.zeroCells (Value.int IntKind.u8 0).cells (grownCap w n 0 5 - n)).size = grownCap w n 0 5 * 1 := by
    rw [Array.size_append, Array.size_append, hz, hz, List.size_toArray, List.length_nil]; omega
  have hown := World.ownsRow_made (e := 5) (size := 1) (base := w.heap.size) w.drew _ (grownCap w n 0 5) (Nat.le_refl _) hGm hsz
  have hbel := (Below.refl w.heap.size w).drew.alloc (Nat.le_refl _) (.cells (([] : List Value).toArray ++ Builtin.zeroCells (Value.int IntKind.u8 0).cells n ++ Builtin.zeroCells (Value.int IntKind.u8 0).cells (grownCap w n 0 5 - n)) 5)
  have hgm : ((grownCap w n 0 5 : Nat) : Int) ≤ 9223372036854775807 := by unfold maxLen at hGm; omega
  clear hold hsz hGm hz
  generalize grownCap w n 0 5 = G at *
  generalize (([] : List Value).toArray ++ Builtin.zeroCells (Value.int IntKind.u8 0).cells n ++ Builtin.zeroCells (Value.int IntKind.u8 0).cells (G - n)) = cs at *
  go_enter Tryz.func181, Tryz.ntmps181
  go_wp2_with (at_builtin; refine Lib.wpList_append_run _ rfl _ _ _ _ rfl _ _ rfl rfl _ _ hrz ?_)
  go_ret
  exact ⟨_, rfl, hown, hbel⟩
theorem flat_take (ls : List (List UInt8)) (k : Nat) (h : k < ls.length) : (ls.take (k + 1)).flatten = (ls.take k).flatten ++ ls.getD k [] := by
  rw [List.take_succ_eq_append_getElem h, List.flatten_append]
  simp [List.getD, List.getElem?_eq_getElem h]
theorem flat_take_le (ls : List (List UInt8)) (k : Nat) : (ls.take k).flatten.length ≤ ls.flatten.length := by
  have h : ls.flatten = (ls.take k).flatten ++ (ls.drop k).flatten := by rw [← List.flatten_append, List.take_append_drop]
  rw [h, List.length_append]; omega
set_option maxRecDepth 100000 in
set_option maxHeartbeats 4000000 in
theorem Concat_any (b m c : Nat) (ls : List (List UInt8)) (w : World) (hm : ls.length = m) (hmm : m ≤ 1000) (hP : ∀ i, i < m → ∃ q n c, w.cell? ⟨b, i, none⟩ = some (.slice q n c) ∧ By w (.slice q n c) (ls.getD i [])) (hs : ls.flatten.length ≤ 1099511627776) (h0 : 0 < ls.flatten.length) :
    Calls Tryz.prog 141 #[.slice (some ⟨b, 0, none⟩) m c] w fun e w' => ∃ v, e = .returned v ∧ w'.ownsRow w.heap.size 5 1 v ls.flatten.length (byV ls.flatten) ∧ Below w.heap.size w w' := by
  obtain ⟨N, hN⟩ : ∃ N, ls.flatten.length = N := ⟨_, rfl⟩
  rw [hN] at hs h0 ⊢
  have HN := Lib.hid hN
  have HP := Lib.hid hP
  have HM := Lib.hid hm
  clear hN hP hm
  have hb : 0 < m → b < w.heap.size := fun h => by obtain ⟨q, n, c, h1, _⟩ := HP.out 0 h; exact World.block_lt_of_cell? w _ h1
  have con := Grow_nil N w h0 hs
  go_enter Tryz.func141, Tryz.ntmps141
  go_wp2
  go_loop [3, 11] (fun s i => ∃ k t : Nat, k ≤ m ∧ i = .int .i64 k ∧ s = .int .i64 t ∧ Hid (t = (ls.take k).flatten.length)) (fun _ i => m - (intOf i).toNat)
  case atStart => exact ⟨0, 0, Nat.zero_le _, rfl, rfl, by simp [Hid]⟩
  case round =>
    obtain ⟨k, t, hk, rfl, rfl, HT⟩ := hrel
    by_cases hlt : k < m
    · obtain ⟨q, n, c', hc, hby⟩ := HP.out k hlt
      have ht : (ls.take (k + 1)).flatten.length = t + n := by rw [flat_take ls k (by rw [HM.out]; exact hlt), List.length_append, ← HT.out, hby.at.1]
      have hle := flat_take_le ls (k + 1)
      rw [HN.out, ht] at hle
      have HT2 := Lib.hid ht
      clear ht hby
      have d1 : decide ((t : Int) + (n : Int) < 0) = false := by simp; omega
      go_wp2
      go_round
      case rel => exact ⟨k + 1, t + n, by omega, by go_num, by go_num, HT2.out.symm⟩
      case measure => simp [intOf]; omega
    · have htN : t = N := by rw [HT.out, List.take_of_length_le (by rw [HM.out]; omega), HN.out]
      subst htN
      clear HT
      go_wp2_with fail
      refine con.mono ?_
      rintro e w1 ⟨v1, rfl, hown, hbel⟩
      clear con
      go_wp2
      go_loopw [6, 27] (fun v i wr => ∃ k n : Nat, k ≤ m ∧ i = .int .i64 k ∧ wr.ownsRow w.heap.size 5 1 v n (byV (ls.take k).flatten) ∧ Hid (n = (ls.take k).flatten.length) ∧ Below w.heap.size w wr) (fun _ i _ => m - (intOf i).toNat)
      case atStart => exact ⟨0, 0, Nat.zero_le _, rfl, hown, by simp [Hid], hbel⟩
      case round =>
        obtain ⟨j, n, hj, rfl, hrow, HR, hbw⟩ := hrel
        by_cases hjl : j < m
        · obtain ⟨q, n', c', hc, hby⟩ := HP.out j hjl
          have hc' : wr.cell? ⟨b, j, none⟩ = some (.slice q n' c') := (World.cell?_of_block (hbw.block _ (hb (by omega)))).trans hc
          obtain ⟨h1, h2, h3, h4, h5⟩ := (hby.on hbw).at
          have ht : (ls.take (j + 1)).flatten = (ls.take j).flatten ++ ls.getD j [] := flat_take ls j (by rw [HM.out]; exact hjl)
          have hle := flat_take_le ls (j + 1)
          have htl : (ls.take (j + 1)).flatten.length = n + n' := by rw [ht, List.length_append, ← HR.out, h1]
          rw [htl, HN.out] at hle
          have HT := Lib.hid ht
          have HTL := Lib.hid htl
          have hbs := hbw.size
          clear ht htl hc hby hown hbel h2 h3
          generalize ls.getD j [] = x at *
          go_wp2_with (at_builtin; refine wpList_append_bytes rfl _ _ rfl w.heap.size _ n _ rfl hrow q n' c' x rfl h4 h1 h5 (by omega) hbs ?_; intro v4 w4 hown4 hgrow4)
          go_roundw
          case rel =>
            refine ⟨j + 1, n + n', by omega, by go_num, ?_, HTL.out.symm, hbw.trans ((Below.refl _ _).grown hgrow4 hbs (fun b h => (hrow.lt b h).1))⟩
            rw [HT.out, byV_app]; exact hown4
          case measure => simp [intOf]; omega
        · have hnN : n = t := by rw [HR.out, List.take_of_length_le (by rw [HM.out]; omega), HN.out]
          have hall : ls.take j = ls := List.take_of_length_le (by rw [HM.out]; omega)
          subst hnN
          rw [hall] at hrow
          clear hall HR
          go_wp2
          go_ret
          exact ⟨_, rfl, hrow, hbw⟩
end Go.Proofs.YtniehbjoogaccaaGreatDoor.Url
namespace Go.Proofs.YtniehbjoogaccaaGreatDoor.Jar
open Go.RowKit Go.Shelf Url
attribute [local go_sem] Oper.semAt_some
def StrArg (x : List UInt8) (args : Array Value) (G : Nat → Prop) (_W : World) : Prop := args = #[.string ⟨x.toArray⟩] ∧ G = fun _ => False
set_option maxRecDepth 100000 in
set_option maxHeartbeats 2000000 in
theorem texts_any (gf : Nat) (lb : Array Value) (xs : List (List UInt8)) (RB : Nat → Prop) (w : World) (eg : ∀ args w, (callFunc gf args).run Tryz.prog w = .ok (.enter gf args) w)
    (hi : IterC Tryz.prog gf lb StrArg xs RB w) (hRs : ∀ b, RB b → b < w.heap.size) (hN : xs.length ≤ 1099511627776) :
    Calls Tryz.prog 27 #[.func (.func gf) #[] lb] w fun e w' => ∃ v, e = .returned v ∧ w'.ownsRow w.heap.size 9 1 v xs.length (xs.map strV) ∧ Below w.heap.size w w' := by
  obtain ⟨i0, hi0, hz0, hz1, hz2⟩ := info_parts info_str
  refine (callsIn_wide (n := 1)).1 ?_
  refine callsIn_of_wp_marks Tryz.func27 rfl trivial ?_ rfl
  simp only [Tryz.ntmps27, List.size_toArray, List.length_cons, List.length_nil, Nat.reduceAdd, Nat.reduceSub, Array.replicate_succ, Array.replicate_zero, List.push_toArray, List.append_toArray, List.nil_append, List.cons_append]
  gi_wp2
  have bO := Boxed.new w 69 (.slice none 0 0)
  obtain ⟨W0, hW0⟩ : ∃ W0, w.alloc (.cells #[.slice none 0 0] 69) = W0 := ⟨_, rfl⟩
  rw [hW0] at bO ⊢
  have hB0 : Below w.heap.size w W0 := hW0 ▸ (Below.refl _ w).alloc (Nat.le_refl _) _
  have hs0 : W0.heap.size = w.heap.size + 1 := by rw [← hW0]; simp
  clear hW0
  refine rf_law (gf := gf) (lb := lb) rfl eg hi ((Keep.of_below hB0).mono fun b _ hb => hRs b hb) (fun b hb => by have := hRs b hb; omega) (fun x args G W h => by obtain ⟨rfl, _⟩ := h; rfl)
    (AllI w.heap.size w.heap.size w) (fun _ _ _ _ => False) (AllI_abide _ _ _ (Nat.le_refl _)) (fun _ _ _ _ _ _ h _ _ => h)
    ⟨_, bO, World.ownsRow_nil _ _ _ _, (fun _ h => h.elim), (fun h => h), (fun _ h => by cases h), hB0⟩ ?round ?done ?stop
  case round =>
    rintro ll pre x rest Pv G args Wr hll hxs ⟨v, hbx, hrow, hge, hnB, hnv, hBl⟩ hPl hGl hPb hGP ⟨rfl, rfl⟩
    have hxm : x ∈ xs := by rw [hxs]; simp
    have hlen : pre.length + rest.length + 1 = xs.length := by rw [hxs]; simp; omega
    gi_wp2
    refine ⟨Keep.refl _ _, fun W2 hk2 hs2 r hr => ?_⟩
    have hlB : ll ≠ w.heap.size := fun h => hnB (h ▸ hPl)
    have hk2' : Keep (fun b => ¬ Pv b) Wr W2 := hk2.mono fun b _ hb h => hb (h ▸ hPl)
    replace hbx := hk2'.boxed hbx hnB
    replace hrow := hk2'.row hrow hnv
    have hBl2 : Below w.heap.size w W2 := hBl.trans ((hk2'.mono fun b hb h hpb => by have := hge b hpb; omega).below hBl.size)
    have cB := hbx.cell
    have fB := hbx.frozen
    have hszB := hBl2.size
    have hpl : pre.length + 1 ≤ 1099511627776 := by omega
    have hPl2 : ∀ b, Pv b → b < W2.heap.size := fun b hb => by rw [hs2]; exact hPb b hb
    have hszr : W2.heap.size ≤ Wr.heap.size := by omega
    clear hs2 hxs hlen hxm hBl hr hk2' hk2
    gi_wp2_with (gi_at_builtin; go_must (refine wpListIn_append_own_at _ rfl _ _ 69 rfl w.heap.size 9 i0 (.string ByteArray.empty) 1 16 Tryz.underlying69 hi0 hz0 hz1 hz2 rfl (by decide) _ _ _ rfl (hrow.alloc _) ⟨W2.heap.size, 0, none⟩ 1 1 [strV x] rfl rfl (cell_one_new _ _ _) (by simp [strV, Value.oneCell']) (by unfold maxLen; omega) (by omega) (by simp; omega) ?_); intro v' w1 hown' hgrow _ hat; obtain ⟨g', cap', rfl⟩ := ownsRow_succ hown'; obtain ⟨hv1, hv2, hr2, hk2, hb2⟩ := hbx.appended (by decide) hrow hszB (Nat.le_refl _) hown' hgrow; have hc1 := hv1.cell; have hf1 := hv1.frozen)
    have hPk : Keep Pv W2 (w1.setCell ⟨w.heap.size, 0, none⟩ (.slice (some ⟨g', 0, none⟩) (pre.length + 1) cap')) :=
      ((Keep.alloc _ W2 _).trans (Keep.of_grownBy hgrow fun r hr' => hnv r hr')).trans (Keep.setCell _ _ _ hnB)
    have hgP : ¬ Pv g' := fun h => by
      rcases hat with h' | h'
      · exact hnv g' h'.symm h
      · have := hPl2 g' h; simp [Value.ownBlock] at h'; omega
    obtain ⟨W3, hW3⟩ : ∃ W3, w1.setCell ⟨w.heap.size, 0, none⟩ (.slice (some ⟨g', 0, none⟩) (pre.length + 1) cap') = W3 := ⟨_, rfl⟩
    rw [hW3] at hv2 hr2 hb2 hPk ⊢
    clear hW3 hk2 hv1 hown' hgrow hc1 hf1 hat cB fB
    gi_wp2
    refine ⟨⟨hPk.os, hPk.tape, hPk.output, hPk.size, fun b hb h => ?_⟩, _, hv2, ?_, fun b hb => hge b hb, fun hb => hnB hb, fun b hb hb' => ?_, hBl2.trans hb2⟩
    · rcases h with h | h
      · exact hb2.block b (hRs b h)
      · exact hPk.block b hb h
    · rw [List.map_append, List.length_append]
      exact hr2
    · cases hb
      exact hgP hb'
  case done =>
    rintro D Pv Wd hD hPD hPl ⟨v, hbx, hrow, hge, hnB, hnv, hBl⟩ hK
    have cB := hbx.cell
    gi_wp2
    refine ⟨by simp, .inl ⟨_, _, rfl, run_takeDeferred hK, ?_⟩⟩
    exact ⟨_, results_tmp rfl _ _ _, v, rfl, (Keep.putObj (S := fun b => ¬ Pv b) Wd D _ (fun h => h hPD)).row hrow hnv, hBl.trans (belowK_b (w := w) (Nat.le_refl _) Wd D _ _ (hge D hPD) hK rfl rfl)⟩
  case stop =>
    rintro D c pre rest Pv Wd _ _ _ _ h _
    exact h.elim
end Go.Proofs.YtniehbjoogaccaaGreatDoor.Jar
namespace Go.Proofs.YtniehbjoogaccaaGreatDoor.Url
open Go.RowKit Go.Shelf
theorem low_own (l : List UInt8) (s : List UInt8) (hs : Ref.lowL s = s) : sameLow l s = decide (Ref.lowL l = s) := by
  unfold sameLow
  show decide (Ref.lowL l = Ref.lowL s) = _
  rw [hs]
set_option maxRecDepth 100000 in
set_option maxHeartbeats 4000000 in
theorem Own_any (q : Option Addr) (n c : Nat) (l : List UInt8) (w : World) (hl : l.length = n) (hn : n ≤ 140737488355328) (h : Lib.BytesIn w q n (Lib.numsL l)) :
    Calls Tryz.prog 84 #[.slice q n c] w fun e w' => e = .returned (.int .i64 (ownP (Ref.lowL l))) ∧ Below w.heap.size w w' := by
  have kc := fun (w : World) (C : Array Value) (n c : Nat) => Lib.run_convert_bytes_const (P := Tryz.prog) w 29 5 C n c Tryz.underlying29 Tryz.underlying5
  have b1 := bytes_lit (w := w) #[.int .u8 104, .int .u8 116, .int .u8 116, .int .u8 112] httpS (4, 5) rfl
  have hB1 := (Below.refl _ w).alloc (Nat.le_refl _) (.cells #[.int .u8 104, .int .u8 116, .int .u8 116, .int .u8 112] 5 (4, 5))
  have h1 := bytes_on h hB1
  have con1 := cutSame_any q (some ⟨w.heap.size, 0, none⟩) n c 4 4 l httpS _ hl rfl hn (by omega) h1 b1
  rw [low_own l httpS (by decide)] at con1
  have b2 := fun (w : World) => bytes_lit (w := w) #[.int .u8 104, .int .u8 116, .int .u8 116, .int .u8 112, .int .u8 115] httpsS (5, 6) rfl
  have hB2 := fun (w : World) => (Below.refl _ w).alloc (Nat.le_refl _) (.cells #[.int .u8 104, .int .u8 116, .int .u8 116, .int .u8 112, .int .u8 115] 5 (5, 6))
  by_cases e1 : Ref.lowL l = httpS
  · have H := Lib.hid (show (ownP (Ref.lowL l) : Int) = 80 by rw [e1]; rfl)
    rw [decide_eq_true e1] at con1
    clear b1 h1 b2 hB2 e1 h hl
    go_enter Tryz.func84, Tryz.ntmps84
    go_wp2_with fail
    refine con1.mono ?_
    rintro e w' ⟨rfl, rfl⟩
    clear con1
    go_wp2
    go_ret
    exact ⟨(by rw [H.out]; try rfl), hB1⟩
  · rw [decide_eq_false e1] at con1
    clear b1
    go_enter Tryz.func84, Tryz.ntmps84
    go_wp2_with fail
    refine con1.mono ?_
    rintro e W1 ⟨rfl, hW1⟩
    rw [hW1] at hB1 h1
    clear con1 hW1 h
    have h2 := bytes_on h1 (hB2 W1)
    have con2 := cutSame_any q (some ⟨W1.heap.size, 0, none⟩) n c 5 5 l httpsS _ hl rfl hn (by omega) h2 (b2 W1)
    rw [low_own l httpsS (by decide)] at con2
    have hB := hB1.trans ((hB2 W1).mono hB1.size)
    clear h2 b2 hB2 h1 hl hB1
    by_cases e2 : Ref.lowL l = httpsS
    · have H := Lib.hid (show (ownP (Ref.lowL l) : Int) = 443 by rw [e2]; rfl)
      rw [decide_eq_true e2] at con2
      clear e1 e2
      go_wp2_with fail
      refine con2.mono ?_
      rintro e w' ⟨rfl, rfl⟩
      clear con2
      go_wp2
      go_ret
      exact ⟨(by rw [H.out]; try rfl), hB⟩
    · have H := Lib.hid (show (ownP (Ref.lowL l) : Int) = 0 by unfold ownP; rw [if_neg e1, if_neg e2]; rfl)
      rw [decide_eq_false e2] at con2
      clear e1 e2
      go_wp2_with fail
      refine con2.mono ?_
      rintro e w' ⟨rfl, rfl⟩
      clear con2
      go_wp2
      go_ret
      exact ⟨(by rw [H.out]; try rfl), hB⟩
def sepS : List UInt8 := [58, 47, 47]
theorem nums_range (l : List UInt8) : ∀ x ∈ Lib.numsL l, 0 ≤ x ∧ x < 256 := fun x hx => by
  unfold Lib.numsL at hx
  obtain ⟨b, _, rfl⟩ := List.mem_map.1 hx
  have := u8_lt b
  omega
theorem By.take {w : World} {q : Option Addr} {n c k : Nat} {l : List UInt8} (h : By w (.slice q n c) l) (hk : k ≤ n) : By w (.slice q k c) (l.take k) := by
  obtain ⟨h1, h2, h3, h4, h5⟩ := h.at
  exact By.of (by rw [List.length_take]; omega) (by omega) h3 (fun hq => (h4 hq).2) (bytes_take h5 h1 hk)
theorem By.drop {w : World} {q : Option Addr} {n c k : Nat} {l : List UInt8} (h : By w (.slice q n c) l) (hk : k ≤ n) : By w (.slice (subA q c k) (n - k) (c - k)) (l.drop k) := by
  obtain ⟨h1, _⟩ := h.at
  have := h.sub hk (Nat.le_refl n)
  rw [← h1, sub_from, h1] at this
  exact this
theorem Cut_any (q qs : Option Addr) (n c cs : Nat) (l : List UInt8) (w : World) (h : By w (.slice q n c) l) (hn : n < 4294967281) (hG : Gl w) (hs : Lib.BytesIn w qs 3 (Lib.numsL sepS)) :
    Calls Tryz.prog 83 #[.slice q n c, .slice qs 3 cs] w fun e w' => e = .returned (Lib.cutV q n c 3 (sepI l)) ∧ ∃ m, w' = w.drewN m := by
  obtain ⟨⟨m, hm⟩, _⟩ := hG
  obtain ⟨h1, h2, h3, h4, h5⟩ := h.at
  have con := Tryz.bytes_Cut_all q qs n c 3 cs (Lib.numsL l) (Lib.numsL sepS) m w (by rw [Lib.numsL_length, h1]) rfl (nums_range l) (nums_range sepS) h5 hs (fun hq => (h4 hq).2) h2 hn (by omega) hm
  rw [bytesOf_numsL, bytesOf_numsL] at con
  exact con
theorem cut_some {q : Option Addr} {n c k : Nat} {l : List UInt8} (h : sepI l = (k : Int)) : Lib.cutV q n c 3 (sepI l) = .tuple #[.slice q k c, .slice (subA q c (k + 3)) (n - (k + 3)) (c - (k + 3)), .bool true] := by
  unfold Lib.cutV
  rw [h, if_pos (by omega), Int.toNat_natCast]
  rfl
theorem cut_none {q : Option Addr} {n c : Nat} {l : List UInt8} (h : sepI l = -1) : Lib.cutV q n c 3 (sepI l) = .tuple #[.slice q n c, .slice none 0 0, .bool false] := by
  unfold Lib.cutV
  rw [h, if_neg (by decide)]
end Go.Proofs.YtniehbjoogaccaaGreatDoor.Url
namespace Go.Proofs.YtniehbjoogaccaaGreatDoor.Jar
open Go.RowKit Go.Shelf Url
set_option linter.unusedVariables false
def TxtsAt (L : Nat) (w : World) (v : Value) (xs : List (List UInt8)) : Prop := ∃ q c, v = .slice q xs.length c ∧ StrsIn w q xs.length xs ∧ ∀ a, q = some a → L ≤ a.block ∧ a.block < w.heap.size
theorem TxtsAt.keep {L : Nat} {w w' : World} {v : Value} {xs : List (List UInt8)} {S : Nat → Prop} (h : TxtsAt L w v xs) (hk : Keep S w w') (hS : ∀ b, L ≤ b → b < w.heap.size → S b) : TxtsAt L w' v xs := by
  obtain ⟨q, c, rfl, h1, h2⟩ := h
  refine ⟨q, c, rfl, fun h0 => ?_, fun a ha => ⟨(h2 a ha).1, Nat.lt_of_lt_of_le (h2 a ha).2 hk.size⟩⟩
  obtain ⟨b, o, rfl, hc⟩ := h1 h0
  have hb := h2 _ rfl
  exact ⟨b, o, rfl, fun i hi => (World.cell?_of_block (hk.block b hb.2 (hS b hb.1 hb.2))).trans (hc i hi)⟩
theorem TxtsAt.on {L : Nat} {w w' : World} {v : Value} {xs : List (List UInt8)} (h : TxtsAt L w v xs) (hb : Below w.heap.size w w') : TxtsAt L w' v xs := h.keep (Keep.of_below hb) fun _ _ h => h
theorem texts_at (gf : Nat) (lb : Array Value) (xs : List (List UInt8)) (RB : Nat → Prop) (w : World) (eg : ∀ args w, (callFunc gf args).run Tryz.prog w = .ok (.enter gf args) w)
    (hi : IterC Tryz.prog gf lb StrArg xs RB w) (hRs : ∀ b, RB b → b < w.heap.size) (hN : xs.length ≤ 1099511627776) :
    Calls Tryz.prog 27 #[.func (.func gf) #[] lb] w fun e w' => ∃ q c, e = .returned (.slice q xs.length c) ∧ TxtsAt w.heap.size w' (.slice q xs.length c) xs ∧ Below w.heap.size w w' := by
  refine (texts_any gf lb xs RB w eg hi hRs hN).mono ?_
  rintro e w' ⟨v, rfl, hr, hb⟩
  obtain ⟨q, c, rfl, -, -, -, h1, h2⟩ := strs_row hr
  exact ⟨q, c, rfl, ⟨q, c, rfl, h1, fun a ha => ⟨(h2 a ha).2, (h2 a ha).1⟩⟩, hb⟩
theorem same_at {L L' : Nat} (v u : Value) (xs ys : List (List UInt8)) (w : World) (h : TxtsAt L w v xs) (k : TxtsAt L' w u ys) (hx : xs.length ≤ 1099511627776) (hy : ys.length ≤ 1099511627776) :
    Calls Tryz.prog 26 #[v, u] w fun e w' => e = .returned (.bool (decide (xs = ys))) ∧ Below w.heap.size w w' := by
  obtain ⟨q, c, rfl, h1, -⟩ := h
  obtain ⟨q2, c2, rfl, k1, -⟩ := k
  refine (Same_any q q2 xs.length c ys.length c2 xs ys w rfl rfl (by omega) (by omega) h1 k1).mono ?_
  rintro e w' ⟨rfl, n, rfl⟩
  exact ⟨rfl, ⟨rfl, rfl, rfl, Nat.le_refl _, fun _ _ => rfl⟩⟩
end Go.Proofs.YtniehbjoogaccaaGreatDoor.Jar
namespace Go.Proofs.YtniehbjoogaccaaGreatDoor.jarCopies
open Go.ChangeShapes Go.WideShapes Go.ChangeAt Go.RowKit
set_option linter.unusedVariables false
theorem own : ownKnob Tryz.prog.godebug = none := by kernel_rfl
theorem laidOut : laidOutB Tryz.prog = true := by kernel_rfl
theorem gTab : Tryz.prog.globalNamed "internal/strconv.uint64pow10" = some 1 := by kernel_rfl
def IsRow (k : IntKind) (w : World) (a : Option Addr) (len cap : Nat) (zs : List Int) : Prop :=
  (a = none ∧ len = 0 ∧ cap = 0 ∧ zs = []) ∨
  ∃ x, a = some x ∧ len ≤ cap ∧ cap ≤ maxLen ∧ zs.length = cap ∧ (∀ i, i < zs.length → w.cell? (x.add i) = some (.int k (zs.getD i 0))) ∧ ∀ n ∈ zs, (Lit.int k n).wf = true
def Walks : Prop := ∀ (a0 : Option Addr) (len0 cap0 : Nat) (a1 : Option Addr) (len1 cap1 : Nat) (a2 : Option Addr) (len2 cap2 : Nat) (z2 : List Int) (w : World), Jar.IsActs w a0 len0 cap0 → Jar.IsActs w a1 len1 cap1 → IsRow .u8 w a2 len2 cap2 z2 → Url.Gl w →
  Calls Tryz.prog 6 #[.slice a0 len0 cap0, .slice a1 len1 cap1, .slice a2 len2 cap2] w fun e w' => e = .returned (.bool true) ∧ Below w.heap.size w w'
theorem gl {W : World} (hL : laidMetH Tryz.prog Rows.jarCopiesRow.laid W) (hsh : W.ShapedOpen Tryz.prog) : Url.Gl W := by
  refine ⟨?_, ?_⟩
  · exact cell_of_shapedOpen_int (t := 3) (zero := #[.int .i64 0]) hsh (by decide +kernel) (by kernel_rfl) rfl (by kernel_rfl) (by kernel_rfl) (by kernel_rfl)
  · have hL' : laidMet Tryz.prog Rows.jarCopiesRow.laid W := by
      rw [MakeChecks.laidMetH_plain _ _ _ (by kernel_rfl)] at hL; exact hL
    exact Lib.tabIs_of_head (rest := []) (t := 234) (e := 200) (n := 20) (k := .u64) (zs := Lib.pow10Tab) (g := 1) gTab (by kernel_rfl) (by kernel_rfl) (by kernel_rfl) (by kernel_rfl) (by kernel_rfl) (show laidMet Tryz.prog [("internal/strconv.uint64pow10", Lib.tabData .u64 Lib.pow10Tab)] W from hL'.tail.tail)
set_option maxRecDepth 100000 in
theorem contract (hw : Walks) (H : Type) (enc : TypeId × Value → H) (W : World) (base : Nat) (args : Array Value) (ds gs : List (DataW H)) (before : List MemPlace)
    (hval0 : ∀ (j : Nat) t v, Tryz.f6.params[j]? = some t → args[j]? = some v → Value.okWide Tryz.prog W .any base t v)
    (hW : DataW.Whole enc Tryz.prog Tryz.f6.params.toList Rows.jarCopiesSpec.vars false W args.toList ds gs before) (hL : laidMetH Tryz.prog Rows.jarCopiesRow.laid W) (hsh : W.ShapedOpen Tryz.prog) :
    Calls Tryz.prog 6 args W fun e W' => ∃ v, e = .returned v ∧ Rows.jarCopiesSpec.post enc Tryz.prog Tryz.f6 false true false false W args v W' := by
  have hval : ∀ (j : Nat) t v, Tryz.f6.params[j]? = some t → args[j]? = some v → Value.okWide Tryz.prog W .any base t v := hval0
  have hW' := hW
  obtain ⟨p, q, hA0, hV, rfl, hfz, hnd⟩ := hW
  have hA : DataW.TrodAll enc Tryz.prog W 0 (fun _ => true) true Tryz.f6.params.toList args.toList ds p := hA0
  rw [Tryz.params6] at hA hval
  obtain ⟨v0, vs0, d0, ds0, p0, q0, hargs, rfl, rfl, h0, r0⟩ := trodAll_cons hA
  obtain ⟨v1, vs1, d1, ds1, p1, q1, rfl, rfl, rfl, h1, r1⟩ := trodAll_cons r0
  obtain ⟨v2, vs2, d2, ds2, p2, q2, rfl, rfl, rfl, h2, r2⟩ := trodAll_cons r1
  obtain ⟨rfl, rfl, rfl⟩ := trodAll_nil r2
  obtain rfl : args = #[v0, v1, v2] := by cases args; simp_all
  obtain ⟨rfl, rfl⟩ := trodVars_none hV
  obtain ⟨a0, len0, cap0, rfl⟩ := okWide_slice Tryz.underlying22 (hval 0 22 v0 rfl rfl)
  have k0 := h0
  have lt0 : ∀ x ∈ p0, x.block < W.heap.size := by obtain ⟨m, hm⟩ := k0; exact DataW.trod_lt m _ _ _ hm
  have w0 : Jar.IsActs W a0 len0 cap0 := by
    obtain ⟨fuel, hf⟩ := h0
    exact Jar.open_acts hf
  obtain ⟨a1, len1, cap1, rfl⟩ := okWide_slice Tryz.underlying22 (hval 1 22 v1 rfl rfl)
  have k1 := h1
  have lt1 : ∀ x ∈ p1, x.block < W.heap.size := by obtain ⟨m, hm⟩ := k1; exact DataW.trod_lt m _ _ _ hm
  have w1 : Jar.IsActs W a1 len1 cap1 := by
    obtain ⟨fuel, hf⟩ := h1
    exact Jar.open_acts hf
  obtain ⟨a2, len2, cap2, rfl⟩ := okWide_slice Tryz.underlying29 (hval 2 29 v2 rfl rfl)
  have k2 := h2
  have lt2 : ∀ x ∈ p2, x.block < W.heap.size := by obtain ⟨m, hm⟩ := k2; exact DataW.trod_lt m _ _ _ hm
  obtain ⟨z2, w2⟩ : ∃ zs, IsRow .u8 W a2 len2 cap2 zs := by
    obtain ⟨fuel, hf⟩ := h2
    rcases open_ints Tryz.underlying29 Tryz.underlying5 (by kernel_rfl) hf with ⟨hcs, _⟩ | ⟨x, l, c, zs, hcs, _, hl, hm, hz, _, hcell, hwz⟩
    · simp [Value.cells] at hcs
      obtain ⟨rfl, rfl, rfl⟩ := hcs
      exact ⟨[], .inl ⟨rfl, rfl, rfl, rfl⟩⟩
    · simp [Value.cells] at hcs
      obtain ⟨rfl, rfl, rfl⟩ := hcs
      exact ⟨zs, .inr ⟨_, rfl, hl, hm, by simpa using hz, hcell, hwz⟩⟩
  clear hA0 hval0
  refine (hw a0 len0 cap0 a1 len1 cap1 a2 len2 cap2 z2 W w0 w1 w2 (gl hL hsh)).mono fun e W' ⟨he, bel⟩ => ?_
  subst he
  exact ⟨_, rfl, _, _, _, [], _, [], hW', trodAll_mk1 (shut_bool Tryz.underlying4 _), (trodAll_cons_mk (Below.trod laidOut (by kernel_rfl) (of_decide_eq_true (by kernel_rfl)) k0 bel lt0) (trodAll_cons_mk (Below.trod laidOut (by kernel_rfl) (of_decide_eq_true (by kernel_rfl)) k1 bel lt1) (trodAll_cons_mk (Below.trod laidOut (by kernel_rfl) (of_decide_eq_true (by kernel_rfl)) k2 bel lt2) trodAll_mk0))), rfl, bel.frame _, fun h => by cases h⟩
theorem door_met (os : Os) : laidMet Tryz.prog Rows.jarCopiesRow.laid ((World.doorLaid Tryz.prog 24 os).forCall (fun _ _ => 0) ⟨#[], #[.slice none 0 0, .slice none 0 0, .slice none 0 0], []⟩).memory :=
  laidMet_of_run' 8 (by kernel_rfl) (by kernel_rfl)
theorem reads (os : Os) {H : Type} (enc : TypeId × Value → H) : ∃ places, DataW.whole enc Tryz.prog ((World.doorLaid Tryz.prog 24 os).forCall (fun _ _ => 0) ⟨#[], #[.slice none 0 0, .slice none 0 0, .slice none 0 0], []⟩).memory Tryz.f6.params.toList Rows.jarCopiesSpec.vars false #[Value.slice none 0 0, Value.slice none 0 0, Value.slice none 0 0].toList 8 = some ([.nil, .nil, .nil], [], places) :=
  ⟨[], by kernel_rfl⟩
set_option maxRecDepth 100000 in
theorem lifted (hw : Walks) (os : Os) (started : os.Started) (H : Type) (enc : TypeId × Value → H) (F : Stop.Interp) :
    ReturnsInHanded {} Tryz.checked os 6 .any ((OpenSpec.ofChange Rows.jarCopiesSpec).preRow enc Tryz.prog Tryz.f6 Rows.jarCopiesRow.domain false Rows.jarCopiesRow.laid) (((OpenSpec.ofChange Rows.jarCopiesSpec).at F).post enc Tryz.prog Tryz.f6 false true false false) := by
  obtain ⟨places, hx⟩ := reads os enc
  refine returnsInHanded_of_row (C := Tryz.checked) (s := OpenSpec.ofChange Rows.jarCopiesSpec) own started (by kernel_rfl) Tryz.func6
    (witness_row_at (enc := enc) (C := Tryz.checked) false (World.doorLaid Tryz.prog 24 os) #[.slice none 0 0, .slice none 0 0, .slice none 0 0] rfl (by kernel_rfl) (by kernel_rfl) (by kernel_rfl)
      (OpenSpec.preRow_of_cond 8 hx (by kernel_rfl) (fun k hk => by cases hk) (by kernel_rfl) (door_met os))) ?_
  intro W base args ds gs before hval hW _ _ _ hL hsh _
  exact contract hw H enc W base args ds gs before hval hW hL hsh
theorem said (hw : Walks) : Rows.JarCopiesSaid :=
  OpenClaim.holds_of_cond 6 Tryz.f6 rfl rfl rfl rfl rfl rfl rfl ⟨rfl, rfl, rfl, rfl, rfl⟩ rfl rfl rfl rfl rfl (by kernel_rfl) Tryz.func6 (by kernel_rfl)
    (of_decide_eq_true (by kernel_rfl)) (by unfold Func.isWrapper; first | (rw [if_pos (by decide +kernel)]; kernel_rfl) | (rw [if_neg (by decide +kernel)]; exact ⟨rfl, rfl⟩))
    (fun os started H enc _ F => by rw [OpenClaim.pre_eq_preRow]; exact lifted hw os started H enc F)
theorem plain (f : FuncId) (fn : Func) (hf : Tryz.pinned.checked.prog.funcNamed "cordon/cordonlaw14.JarCopies" = some f) (hfn : Tryz.pinned.checked.prog.funcs[f]? = some fn) :
    true = Tryz.pinned.checked.prog.looks [] ∧ ∀ (j : Nat) t, fn.params[j]? = some t → Tryz.pinned.checked.prog.wantsStandIn t = false := by
  obtain rfl : f = 6 := Option.some.inj ((show Tryz.prog.funcNamed "cordon/cordonlaw14.JarCopies" = some 6 by kernel_rfl).symm.trans hf) |>.symm
  obtain rfl : fn = Tryz.f6 := (Option.some.inj (Tryz.func6.symm.trans hfn)).symm
  refine ⟨by kernel_rfl, fun j t ht => ?_⟩
  rw [Tryz.params6] at ht
  rcases (show t = 22 ∨ t = 22 ∨ t = 29 by simpa using Array.mem_of_getElem? ht) with rfl | rfl | rfl
  · exact (show Tryz.prog.wantsStandIn 22 = false by kernel_rfl)
  · exact (show Tryz.prog.wantsStandIn 22 = false by kernel_rfl)
  · exact (show Tryz.prog.wantsStandIn 29 = false by kernel_rfl)
theorem card (hw : Walks) : Rows.JarCopiesCardSaid :=
  Claim7.holds_tied_plain_at .later [] _ _ _ _ (said hw) (fun _ h => by cases h) (by kernel_rfl) (fun _ h => by cases h) jarCopies_row_tie rfl ⟨rfl, rfl⟩ (by kernel_rfl) rfl plain (by kernel_rfl)
end Go.Proofs.YtniehbjoogaccaaGreatDoor.jarCopies
namespace Go.Proofs.YtniehbjoogaccaaGreatDoor.Host
open Go.RowKit Go.Shelf
def canL (l : List UInt8) : List UInt8 := if parseE l = 0 then Ref.lowL l else []
def CanOut (l : List UInt8) (w : World) (e : Ending) (w' : World) : Prop :=
  ∃ v, e = .returned (.tuple #[v, .int .i64 (parseE l)]) ∧ w'.ownsRow w.heap.size 5 1 v (canL l).length ((Lib.numsL (canL l)).map (Value.int .u8)) ∧ Below w.heap.size w w'
theorem can_err {l : List UInt8} {n : Int} {w w' : World} (h : parseE l = n) (hn : n ≠ 0) (hb : Below w.heap.size w w') : CanOut l w (.returned (.tuple #[.slice none 0 0, .int .i64 n])) w' := by
  subst h
  have hc : canL l = [] := by unfold canL; rw [if_neg hn]
  exact ⟨_, rfl, by rw [hc]; exact World.ownsRow_nil _ _ _ _, hb⟩
theorem can_ok {l : List UInt8} {n : Nat} {v : Value} {w w' : World} (h : parseE l = 0) (hl : l.length = n) (hr : w'.ownsRow w.heap.size 5 1 v n ((Lib.numsL (lowL l)).map (Value.int .u8))) (hb : Below w.heap.size w w') : CanOut l w (.returned (.tuple #[v, .int .i64 0])) w' := by
  have hc : canL l = lowL l := by unfold canL; rw [if_pos h]; rfl
  exact ⟨_, by rw [h], by rw [hc, lowL_length, hl]; exact hr, hb⟩
set_option maxRecDepth 100000 in
set_option maxHeartbeats 4000000 in
theorem Parse_any (q : Option Addr) (n c : Nat) (l : List UInt8) (w : World) (hl : l.length = n) (hn : n ≤ 140737488355328) (h : Lib.BytesIn w q n (Lib.numsL l)) :
    Calls Tryz.prog 87 #[.slice q n c] w fun e w' => CanOut l w e w' := by
  by_cases hbig : 253 < n
  · have d1 : decide ((253 : Int) < (n : Int)) = true := by simp; omega
    have H := Lib.hid (Ref.parse_big l (by omega))
    clear h hl
    go_enter Tryz.func87, Tryz.ntmps87
    go_wp2
    go_ret2
    exact can_err H.out (by decide) (Below.refl _ _)
  · have d1 : decide ((253 : Int) < (n : Int)) = false := by simp; omega
    have con := isHost_any q n c l w hl (by omega) h
    have PH := Lib.hid (Ref.parse_host l (by omega))
    have PN := Lib.hid (Ref.parse_none l (by omega))
    have HL := Lib.hid hl
    cases hb : hostB (Ref.splitL 46 l) with
    | false =>
      have H := Lib.hid (PN.out hb)
      rw [hb] at con
      clear hb PH PN h hl
      go_enter Tryz.func87, Tryz.ntmps87
      go_wp2_with fail
      refine con.mono ?_
      rintro e w2 ⟨rfl, hb2⟩
      clear con
      go_wp2
      go_ret2
      exact can_err H.out (by decide) hb2
    | true =>
      have H := Lib.hid (PH.out hb)
      rw [hb] at con
      clear hb PH PN hl
      go_enter Tryz.func87, Tryz.ntmps87
      go_wp2_with fail
      refine con.mono ?_
      rintro e w2 ⟨rfl, hb2⟩
      have con2 := Lower_any q n c l w2 HL.out hn (bytes_keep h (Keep.of_below hb2) (fun a h1 h2 => bytes_lt h a h1 h2))
      clear con h
      go_wp2_with fail
      refine con2.mono ?_
      rintro e w3 ⟨v3, rfl, hrow, hb3⟩
      have hrow' := row_base hrow hb2.size
      have hb' := hb2.trans (hb3.mono hb2.size)
      clear con2 hrow
      go_wp2
      go_ret2
      exact can_ok H.out HL.out hrow' hb'
end Go.Proofs.YtniehbjoogaccaaGreatDoor.Host
namespace Go.Proofs.YtniehbjoogaccaaGreatDoor.Hdr
open Go Go.RowKit Go.Shelf Url
set_option linter.unusedVariables false
theorem blank_same (b : UInt8) : blankB b = blankB b := rfl
theorem dropWhile_drop (l : List UInt8) : ∀ f, f ≤ l.length → (∀ j, j < f → blankB (l.getD j 0) = true) → (f < l.length → blankB (l.getD f 0) = false) → l.dropWhile blankB = l.drop f := by
  induction l with
  | nil => intro f _ _ _; simp
  | cons x r ih =>
    intro f hf h1 h2
    cases f with
    | zero =>
      have := h2 (by simp)
      rw [List.getD_cons_zero] at this
      rw [List.dropWhile_cons, if_neg (by rw [this]; simp), List.drop_zero]
    | succ f =>
      have h0 := h1 0 (by omega)
      rw [List.getD_cons_zero] at h0
      rw [List.dropWhile_cons, if_pos h0, List.drop_succ_cons]
      refine ih f (by simp at hf; omega) (fun j hj => ?_) (fun hj => ?_)
      · have := h1 (j + 1) (by omega); rwa [List.getD_cons_succ] at this
      · have := h2 (by simp; omega); rwa [List.getD_cons_succ] at this
theorem getD_reverse (l : List UInt8) (j : Nat) (h : j < l.length) : l.reverse.getD j 0 = l.getD (l.length - 1 - j) 0 := by
  rw [List.getD, List.getElem?_reverse h, List.getD]
theorem trim_sub (l : List UInt8) (f e : Nat) (h : Trims l f e) : trimB l = sub l f e := by
  unfold trimB sub
  rcases h with ⟨rfl, rfl, h⟩ | ⟨h1, h2, h3, h4, h5, h6⟩
  · rw [dropWhile_drop l l.length (Nat.le_refl _) (fun j hj => by rw [blank_same]; exact h j hj) (fun hh => absurd hh (by omega))]
    simp
  · rw [dropWhile_drop l f (by omega) (fun j hj => by rw [blank_same]; exact h3 j hj) (fun _ => by rw [blank_same]; exact h4)]
    have hlen : (l.drop f).length = l.length - f := List.length_drop
    rw [dropWhile_drop (l.drop f).reverse (l.length - e) (by rw [List.length_reverse]; omega) (fun j hj => ?_) (fun hj => ?_)]
    · rw [List.drop_reverse, List.reverse_reverse, hlen]
      congr 1; omega
    · rw [getD_reverse _ _ (by omega), hlen, List.getD, List.getElem?_drop, ← List.getD, blank_same]
      exact h6 _ (by omega) (by omega)
    · rw [List.length_reverse, hlen] at hj
      rw [getD_reverse _ _ (by omega), hlen, List.getD, List.getElem?_drop, ← List.getD, blank_same]
      rw [show f + (l.length - f - 1 - (l.length - e)) = e - 1 by omega]
      exact h5
theorem ok_mem (c : UInt8) (l : List UInt8) : atOk c l = decide (c ∈ l) := by
  obtain ⟨_, h2, _⟩ := at_ahead c l
  by_cases h : c ∈ l
  · obtain ⟨x, y, rfl, hx⟩ := List.eq_append_cons_of_mem h
    rw [(ahead_yes c x y hx).2] at h2
    cases hk : atOk c (x ++ c :: y) with
    | true => simp
    | false => rw [hk] at h2; simp at h2
  · rw [(ahead_no c l h).2] at h2
    cases hk : atOk c l with
    | false => simp [h]
    | true => rw [hk] at h2; simp at h2
end Go.Proofs.YtniehbjoogaccaaGreatDoor.Hdr
namespace Go.Proofs.YtniehbjoogaccaaGreatDoor.Jar
open Go.RowKit Go.Shelf Url
attribute [local go_sem] Oper.semAt_some
set_option linter.unusedVariables false
def fitB (x : Ax) : Bool := decide (x.at_.length ≤ 200) && decide (x.for_.length ≤ 200) && decide (x.set.length ≤ 300)
def fewB (l : List Ax) : Bool := decide (l.length ≤ 60) && l.all fitB
theorem few_len {l : List Ax} (h : fewB l = true) : l.length ≤ 60 := of_decide_eq_true (Bool.and_eq_true_iff.1 h).1
theorem few_fit {l : List Ax} (h : fewB l = true) {x : Ax} (hx : x ∈ l) : x.at_.length ≤ 200 ∧ x.for_.length ≤ 200 ∧ x.set.length ≤ 300 := by
  have := List.all_eq_true.1 (Bool.and_eq_true_iff.1 h).2 x hx
  unfold fitB at this
  simpa [and_assoc] using this
theorem few_not {l : List Ax} {x : Ax} (hx : x ∈ l) (h : fitB x = false) : fewB l = false := by
  unfold fewB
  rw [Bool.and_eq_false_iff]
  exact .inr (List.all_eq_false.2 ⟨x, hx, by rw [h]; decide⟩)
theorem take_snocA {α : Type} (l : List α) (k : Nat) (x : α) (h : l[k]? = some x) : l.take (k + 1) = l.take k ++ [x] := by
  obtain ⟨hk, rfl⟩ := List.getElem?_eq_some_iff.1 h
  exact List.take_succ_eq_append_getElem hk
set_option maxRecDepth 100000 in
set_option maxHeartbeats 8000000 in
theorem few_any (q : Option Addr) (n c : Nat) (l : List Ax) (w : World) (h : ActsIn w q n l) :
    Calls Tryz.prog 8 #[.slice q n c] w fun e w' => e = .returned (.bool (fewB l)) ∧ Below w.heap.size w w' := by
  have hl := h.1
  by_cases hbig : 60 < n
  · have d1 : decide ((60 : Int) < (n : Int)) = true := by simp; omega
    have HR := Lib.hid (show fewB l = false by unfold fewB; rw [decide_eq_false (by omega)]; rfl)
    clear h hl
    go_enter Tryz.func8, Tryz.ntmps8
    go_wp2
    go_ret
    exact ⟨by rw [HR.out]; rfl, Below.refl _ _⟩
  · have d1 : decide ((60 : Int) < (n : Int)) = false := by simp; omega
    have HA := Lib.hid h
    have HL := Lib.hid hl
    have HN : n ≤ 60 := by omega
    clear h hl hbig
    go_enter Tryz.func8, Tryz.ntmps8
    go_wp2
    clear d1
    go_loopw [10] (fun i wr => ∃ k : Nat, k ≤ n ∧ i = .int .i64 k ∧ Hid ((l.take k).all fitB = true) ∧ Below w.heap.size w wr) (fun i _ => n - (intOf i).toNat)
    case atStart => exact ⟨0, Nat.zero_le _, rfl, Lib.hid rfl, Below.refl _ _⟩
    case round =>
      obtain ⟨k, hk, rfl, HK, hB⟩ := hrel
      by_cases hlt : k < n
      · obtain ⟨x, hx⟩ : ∃ x, l[k]? = some x := ⟨_, List.getElem?_eq_getElem (by have := HL.out; omega)⟩
        obtain ⟨g, o, rfl, hg, hc⟩ := (HA.out.on hB).2 (by omega)
        obtain ⟨q1, n1, c1, q2, n2, c2, q3, n3, c3, k0, k1, k2, k3, k4, -, y1, y2, y3⟩ := hc k x hx
        have e1 := y1.at.1
        have e2 := y2.at.1
        have e3 := y3.at.1
        have HT := Lib.hid (take_snocA l k x hx)
        have HX := Lib.hid (List.mem_of_getElem? hx)
        have hB1 := hB.alloc hB.size (.cells #[.int .i64 x.kind, .int .i64 x.now, .slice q1 n1 c1, .slice q2 n2 c2, .slice q3 n3 c3] 31)
        clear hc hx y1 y2 y3 hg
        by_cases s1 : n1 ≤ 200
        · by_cases s2 : n2 ≤ 200
          · by_cases s3 : n3 ≤ 300
            · have d1 : decide ((200 : Int) < (n1 : Int)) = false := by simp; omega
              have d2 : decide ((200 : Int) < (n2 : Int)) = false := by simp; omega
              have d3 : decide ((300 : Int) < (n3 : Int)) = false := by simp; omega
              have HF := Lib.hid (show (l.take (k + 1)).all fitB = true by
                rw [HT.out, List.all_append, HK.out]
                simp only [List.all_cons, List.all_nil, fitB]
                rw [decide_eq_true (by omega), decide_eq_true (by omega), decide_eq_true (by omega)]; rfl)
              clear s1 s2 s3 e1 e2 e3
              go_wp2
              go_roundw
              case rel => exact ⟨k + 1, by omega, by go_num, HF, hB1⟩
              case measure => simp [intOf]; omega
            · have d1 : decide ((200 : Int) < (n1 : Int)) = false := by simp; omega
              have d2 : decide ((200 : Int) < (n2 : Int)) = false := by simp; omega
              have d3 : decide ((300 : Int) < (n3 : Int)) = true := by simp; omega
              have HF := Lib.hid (show fitB x = false by unfold fitB; rw [decide_eq_false (p := x.set.length ≤ 300) (by omega), Bool.and_false])
              clear s1 s2 s3 e1 e2 e3
              go_wp2
              go_ret
              exact ⟨by rw [few_not HX.out HF.out]; rfl, hB1⟩
          · have d1 : decide ((200 : Int) < (n1 : Int)) = false := by simp; omega
            have d2 : decide ((200 : Int) < (n2 : Int)) = true := by simp; omega
            have HF := Lib.hid (show fitB x = false by unfold fitB; rw [decide_eq_false (p := x.for_.length ≤ 200) (by omega), Bool.and_false, Bool.false_and])
            clear s1 s2 e1 e2 e3
            go_wp2
            go_ret
            exact ⟨by rw [few_not HX.out HF.out]; rfl, hB1⟩
        · have d1 : decide ((200 : Int) < (n1 : Int)) = true := by simp; omega
          have HF := Lib.hid (show fitB x = false by unfold fitB; rw [decide_eq_false (p := x.at_.length ≤ 200) (by omega)]; rfl)
          clear s1 e1 e2 e3
          go_wp2
          go_ret
          exact ⟨by rw [few_not HX.out HF.out]; rfl, hB1⟩
      · obtain rfl : k = n := by omega
        have HE := Lib.hid (show fewB l = true by
          have h := HK.out
          rw [← HL.out, List.take_length] at h
          unfold fewB
          rw [h, decide_eq_true (by have := HL.out; omega)]; rfl)
        go_wp2
        go_ret
        exact ⟨by rw [HE.out]; rfl, hB⟩
end Go.Proofs.YtniehbjoogaccaaGreatDoor.Jar
namespace Go.Proofs.YtniehbjoogaccaaGreatDoor.Url
open Go.RowKit Go.Shelf
theorem run_append_by (ty : TypeId) (base : Nat) (v : Value) (n : Nat) (xs : List Value) (w : World) (hown : w.ownsRow base 5 1 v n xs) (vx : Value) (bs : List UInt8) (hb : By w vx bs) (h47 : n + bs.length ≤ 140737488355328) (hbase : base ≤ w.heap.size) :
    ∃ v' w', (Builtin.append_ #[29, 29] ty #[v, vx]).run Tryz.prog w = .ok v' w' ∧ w'.ownsRow base 5 1 v' (n + bs.length) (xs ++ byV bs) ∧ w.grownBy w' v.ownBlock := by
  obtain ⟨i0, hi0, hz0, hz1, hz2⟩ := info_parts info_u8
  obtain ⟨q, c, rfl, h1, h2, h3, h4⟩ := hb
  cases q with
  | none =>
    have hc : c = 0 := h3 rfl
    subst hc
    obtain rfl : bs = [] := List.eq_nil_of_length_eq_zero (by omega)
    exact ⟨v, w, run_append_owned_none (P := Tryz.prog) (w := w) base 29 ty 5 i0 1 Tryz.underlying29 hi0 v n xs hown, by simpa [byV, Lib.numsL] using hown, ⟨rfl, rfl, rfl, Nat.le_refl _, fun _ _ _ => rfl⟩⟩
  | some ad =>
    have hlen : (byV bs).length = bs.length * 1 := by simp [byV, Lib.numsL]
    obtain ⟨v', w', hr, h5, h6, _, _⟩ := run_append_own_at (P := Tryz.prog) w base 29 ty 5 i0 (.int .u8 0) 1 1 Tryz.underlying29 hi0 hz0 hz1 hz2 rfl (by decide) v n xs hown ad bs.length c (byV bs) hlen (fun j u hj => by
      rcases Nat.lt_or_ge j bs.length with h' | h'
      · obtain ⟨b, o, he, hcc⟩ := h4.at (by omega)
        cases he
        have hj' : j < (Lib.numsL bs).length := by rw [Lib.numsL_length]; omega
        unfold byV at hj
        rw [Go.WideShapes.add_plain, hcc j h']
        rw [List.getElem?_map, List.getElem?_eq_getElem hj'] at hj
        simp only [Option.map_some, Option.some.injEq] at hj
        rw [← hj, List.getD, List.getElem?_eq_getElem hj']
        rfl
      · rw [List.getElem?_eq_none (by omega)] at hj
        cases hj) (by simp [byV, Lib.numsL, Value.oneCell']) (by unfold maxLen; omega) (by omega) hbase
    exact ⟨v', w', hr, h5, h6⟩
theorem wp_append_by {o : Oper} {a : Act} {w : World} {K : Act → World → Prop} {Q : Exit → Act → World → Prop} (s x : Operand)
    (ho : o.op = .call { callee := .builtin .append, args := #[s, x], argTypes := #[29, 29] })
    (base : Nat) (v : Value) (n : Nat) (xs : List Value) (hs : a.eval s = v) (hown : w.ownsRow base 5 1 v n xs) (vx : Value) (bs : List UInt8) (hx : a.eval x = vx) (hb : By w vx bs) (h47 : n + bs.length ≤ 140737488355328) (hbase : base ≤ w.heap.size)
    (h : ∀ v' w', w'.ownsRow base 5 1 v' (n + bs.length) (xs ++ byV bs) → w.grownBy w' v.ownBlock → K (a.put o.dst v') w') : o.wp Tryz.prog a w K Q := by
  obtain ⟨v', w', hr, h1, h2⟩ := run_append_by o.type base v n xs w hown vx bs hb h47 hbase
  exact Lib.wp_append_run (P := Tryz.prog) w s x 29 29 ho v vx hs hx v' w' hr (h v' w' h1 h2)
theorem wpList_append_by {ops : Array Oper} {rest : List Oper} {o : Oper} {a : Act} {w : World} {Q : Exit → Act → World → Prop} (hgd : o.guard = none) (s x : Operand)
    (ho : o.op = .call { callee := .builtin .append, args := #[s, x], argTypes := #[29, 29] })
    (base : Nat) (v : Value) (n : Nat) (xs : List Value) (hs : a.eval s = v) (hown : w.ownsRow base 5 1 v n xs) (vx : Value) (bs : List UInt8) (hx : a.eval x = vx) (hb : By w vx bs) (h47 : n + bs.length ≤ 140737488355328) (hbase : base ≤ w.heap.size)
    (h : ∀ v' w', w'.ownsRow base 5 1 v' (n + bs.length) (xs ++ byV bs) → w.grownBy w' v.ownBlock → wpList Tryz.prog ops Q rest (a.put o.dst v') w') : wpList Tryz.prog ops Q (o :: rest) a w := by
  obtain ⟨v', w', hr, h1, h2⟩ := run_append_by o.type base v n xs w hown vx bs hb h47 hbase
  exact Lib.wpList_append_run (P := Tryz.prog) w hgd s x 29 29 ho v vx hs hx v' w' hr (h v' w' h1 h2)
theorem by_lit (w : World) (cs : Array Value) (l : List UInt8) (fr : Nat × Nat) (n : Nat) (h : cs.toList = byV l) (hn : l.length = n) (hm : n ≤ maxLen) : By (w.alloc (.cells cs 5 fr)) (.slice (some ⟨w.heap.size, 0, none⟩) n n) l :=
  By.of hn (Nat.le_refl _) hm (fun h => by cases h) (by rw [← hn]; exact bytes_lit cs l fr h)
theorem grown_below {base n : Nat} {v : Value} {xs : List Value} {w w' : World} (hown : w.ownsRow base 5 1 v n xs) (hg : w.grownBy w' v.ownBlock) (hb : base ≤ w.heap.size) : Below base w w' :=
  (Below.refl _ _).grown hg hb (fun b h => (hown.lt b h).1)
theorem box_cell (w : World) (cs : Array Value) (t : TypeId) (i : Nat) (x : Value) (h : cs[i]? = some x) : (w.alloc (.cells cs t)).cell? ⟨w.heap.size, i, none⟩ = some x := by
  have hn : (w.alloc (.cells cs t)).heap[w.heap.size]? = some (.cells cs t) := World.alloc_heap_new w _
  simp only [World.cell?, hn]
  exact h
theorem cell_on {w w' : World} {a : Addr} {x : Value} (h : w.cell? a = some x) (hk : Below w.heap.size w w') : w'.cell? a = some x := (World.cell?_of_block (hk.block _ (World.block_lt_of_cell? w _ h))).trans h
theorem cell_below {B : Nat} {w w' : World} {a : Addr} {x : Value} (h : w.cell? a = some x) (hk : Below B w w') (hB : a.block < B) : w'.cell? a = some x := (World.cell?_of_block (hk.block _ hB)).trans h
end Go.Proofs.YtniehbjoogaccaaGreatDoor.Url
namespace Go.Proofs.YtniehbjoogaccaaGreatDoor.Url
open Go.RowKit Go.Shelf
attribute [local go_sem] Oper.semAt_some
def UrlIn (w : World) (v : Value) (u : U) : Prop := ∃ q0 n0 c0 q1 n1 c1 q3 n3 c3 q4 n4 c4 q5 n5 c5,
  v = .agg #[.slice q0 n0 c0, .slice q1 n1 c1, .int .i64 u.port, .slice q3 n3 c3, .slice q4 n4 c4, .slice q5 n5 c5, .bool u.hq, .bool u.hf] ∧
  By w (.slice q0 n0 c0) u.scheme ∧ By w (.slice q1 n1 c1) u.host ∧ By w (.slice q3 n3 c3) u.path ∧ By w (.slice q4 n4 c4) u.query ∧ By w (.slice q5 n5 c5) u.frag
theorem UrlIn.on {w w' : World} {v : Value} {u : U} (h : UrlIn w v u) (hk : Below w.heap.size w w') : UrlIn w' v u := by
  obtain ⟨q0, n0, c0, q1, n1, c1, q3, n3, c3, q4, n4, c4, q5, n5, c5, hv, h0, h1, h3, h4, h5⟩ := h
  exact ⟨q0, n0, c0, q1, n1, c1, q3, n3, c3, q4, n4, c4, q5, n5, c5, hv, h0.on hk, h1.on hk, h3.on hk, h4.on hk, h5.on hk⟩
def serverT (u : U) : List UInt8 := u.scheme ++ sepS ++ u.host ++ portT u
theorem text_server (u : U) : textU u = serverT u ++ u.path ++ queryT u ++ fragT u := rfl
theorem low_scheme (u : U) (h : Ok u) : Ref.lowL u.scheme = u.scheme := by
  rcases h.scheme with hs | hs <;> (rw [hs]; decide)
theorem dig_dec10 (n : Nat) : digL n = Lib.decDigits n := by
  induction n using Nat.strongRecOn with
  | ind n ih =>
    by_cases h : n < 10
    · rw [dig_small n h, Lib.decDigits, dif_pos h]
    · rw [dig_big n h, Lib.decDigits, dif_neg h, ih (n / 10) (by omega)]
theorem itoa_dig (n : Nat) : Lib.byteCells (Lib.itoa (n : Int)) = byV (digL n) ∧ (Lib.itoa (n : Int)).length = (digL n).length := by
  rw [Lib.itoa_nonneg, dig_dec10]
  refine ⟨?_, rfl⟩
  unfold Lib.byteCells byV Lib.numsL
  rw [List.map_map]; rfl
theorem AppendInt_any (B n p : Nat) (v : Value) (xs : List Value) (w : World) (hown : w.ownsRow B 5 1 v n xs) (hp : p ≤ 65535) (hB : B ≤ w.heap.size) (hn : n ≤ 1048577) (ht : Lib.TabBelow Tryz.prog B w "internal/strconv.uint64pow10" .u64 Lib.pow10Tab) :
    Calls Tryz.prog 81 #[v, .int .i64 (p : Int), .int .i64 10] w fun e w' => ∃ v', e = .returned v' ∧ w'.ownsRow B 5 1 v' (n + (digL p).length) (xs ++ byV (digL p)) ∧ Below B w w' := by
  refine (Tryz.strconv_AppendInt_10 B n p (by omega) (by omega) v xs w hown hB (by omega) ht).mono ?_
  rintro e w' ⟨v', he, hr, hb, _⟩
  rw [(itoa_dig p).1, (itoa_dig p).2] at hr
  exact ⟨v', he, hr, hb⟩
set_option maxRecDepth 100000 in
set_option maxHeartbeats 8000000 in
theorem server_any (u : U) (v : Value) (w : World) (h : UrlIn w v u) (hok : Ok u) (hG : Gl w) (hlen : (textU u).length ≤ 1048576) :
    Calls Tryz.prog 92 #[v] w fun e w' => ∃ v', e = .returned v' ∧ w'.ownsRow w.heap.size 5 1 v' (serverT u).length (byV (serverT u)) ∧ Below w.heap.size w w' := by
  have kc := fun (w : World) (C : Array Value) (n c : Nat) => Lib.run_convert_bytes_const (P := Tryz.prog) w 29 5 C n c Tryz.underlying29 Tryz.underlying5
  obtain ⟨q0, n0, c0, q1, n1, c1, q3, n3, c3, q4, n4, c4, q5, n5, c5, rfl, h0, h1, h3, h4, h5⟩ := h
  have hp2 := hok.port2
  have HLS := Lib.hid (low_scheme u hok)
  have hsl : (u.scheme ++ sepS ++ u.host).length ≤ 1048576 := by
    have : (textU u).length = (u.scheme ++ sepS ++ u.host).length + (portT u ++ u.path ++ queryT u ++ fragT u).length := by rw [← List.length_append]; rw [text_server]; unfold serverT; simp only [List.append_assoc]
    omega
  have HPT := Lib.hid (show portT u = if u.port = ownP u.scheme then [] else 58 :: digL u.port from rfl)
  have HST := Lib.hid (show serverT u = (u.scheme ++ sepS ++ u.host) ++ portT u from rfl)
  clear hok hlen
  -- the box, "://", the three parts
  obtain ⟨W1, hW1⟩ : ∃ W1, (w.alloc (.cells #[.slice q0 n0 c0, .slice q1 n1 c1, .int .i64 u.port, .slice q3 n3 c3, .slice q4 n4 c4, .slice q5 n5 c5, .bool u.hq, .bool u.hf] 33)).alloc (.cells #[.int .u8 58, .int .u8 47, .int .u8 47] 5 (3, 4)) = W1 := ⟨_, rfl⟩
  have hs1 : W1.heap.size = w.heap.size + 2 := by rw [← hW1]; simp
  have hB0 := (Below.refl _ w).alloc (Nat.le_refl _) (.cells #[.slice q0 n0 c0, .slice q1 n1 c1, .int .i64 u.port, .slice q3 n3 c3, .slice q4 n4 c4, .slice q5 n5 c5, .bool u.hq, .bool u.hf] 33)
  have hB1 : Below w.heap.size w W1 := by rw [← hW1]; exact hB0.alloc hB0.size _
  have hbox : ∀ i x, (#[.slice q0 n0 c0, .slice q1 n1 c1, .int .i64 u.port, .slice q3 n3 c3, .slice q4 n4 c4, .slice q5 n5 c5, .bool u.hq, .bool u.hf] : Array Value)[i]? = some x → W1.cell? ⟨w.heap.size, i, none⟩ = some x := fun i x h => by
    rw [← hW1]; exact cell_on (box_cell w _ 33 i x h) ((Below.refl _ _).alloc (Nat.le_refl _) _)
  have hsep : By W1 (.slice (some ⟨w.heap.size + 1, 0, none⟩) 3 3) sepS := by
    have := by_lit (w.alloc (.cells #[.slice q0 n0 c0, .slice q1 n1 c1, .int .i64 u.port, .slice q3 n3 c3, .slice q4 n4 c4, .slice q5 n5 c5, .bool u.hq, .bool u.hf] 33)) #[.int .u8 58, .int .u8 47, .int .u8 47] sepS (3, 4) 3 rfl rfl (by decide)
    rw [World.size_alloc] at this
    rw [← hW1]; exact this
  have kc1 := kc (w.alloc (.cells #[.slice q0 n0 c0, .slice q1 n1 c1, .int .i64 u.port, .slice q3 n3 c3, .slice q4 n4 c4, .slice q5 n5 c5, .bool u.hq, .bool u.hf] 33)) #[.int .u8 58, .int .u8 47, .int .u8 47] 3 3
  rw [World.size_alloc] at kc1
  have g0 := h0.on hB1
  have g1 := h1.on hB1
  obtain ⟨W2, hW2⟩ : ∃ W2, W1.alloc (.cells #[.slice q0 n0 c0, .slice (some ⟨w.heap.size + 1, 0, none⟩) 3 3, .slice q1 n1 c1] 29) = W2 := ⟨_, rfl⟩
  have hB12 : Below W1.heap.size W1 W2 := by rw [← hW2]; exact (Below.refl _ _).alloc (Nat.le_refl _) _
  have hB2 := hB1.trans (hB12.mono hB1.size)
  have hs2 : W2.heap.size = w.heap.size + 3 := by rw [← hW2, World.size_alloc, hs1]
  have hcl : ∀ i x, (#[.slice q0 n0 c0, .slice (some ⟨w.heap.size + 1, 0, none⟩) 3 3, .slice q1 n1 c1] : Array Value)[i]? = some x → W2.cell? ⟨w.heap.size + 1 + 1, i, none⟩ = some x := fun i x h => by
    have := box_cell W1 _ 29 i x h
    rw [hs1] at this
    rw [← hW2]; exact this
  have con := Concat_any (w.heap.size + 1 + 1) 3 3 [u.scheme, sepS, u.host] W2 rfl (by omega) (fun i hi => by
    match i, hi with
    | 0, _ => exact ⟨_, _, _, hcl 0 _ rfl, g0.on hB12⟩
    | 1, _ => exact ⟨_, _, _, hcl 1 _ rfl, hsep.on hB12⟩
    | 2, _ => exact ⟨_, _, _, hcl 2 _ rfl, g1.on hB12⟩) (by simp only [List.flatten_cons, List.flatten_nil, List.append_nil, ← List.append_assoc]; omega) (by simp [sepS]; omega)
  simp only [List.flatten_cons, List.flatten_nil, List.append_nil, ← List.append_assoc] at con
  have HW1 := Lib.hid hW1
  have HW2 := Lib.hid hW2
  clear hW1 hW2 hB0 hcl hsep h0 h1 h3 h4 h5 g1
  go_enter Tryz.func92, Tryz.ntmps92
  go_wp2_with fail
  rw [HW1.out, HW2.out]
  refine con.mono ?_
  rintro e W3 ⟨v3, rfl, hrow, hb3⟩
  have hB3 := hB2.trans (hb3.mono hB2.size)
  have hB13 := hB12.trans (hb3.mono hB12.size)
  have hrow' := row_base hrow (show w.heap.size + 1 ≤ W2.heap.size by omega)
  have hb := fun i x h => cell_on (hbox i x h) hB13
  have g0' := g0.on hB13
  have conO := fun X (hX : Below W3.heap.size W3 X) => Own_any q0 n0 c0 u.scheme X g0'.at.1 (by have := hsl; rw [List.length_append, List.length_append, g0'.at.1] at this; omega) (g0'.on hX).at.2.2.2.2
  rw [HLS.out] at conO
  clear con kc1 hrow hbox g0 hb3 hB12 hB13 hB2 hB1 HW1 HW2
  obtain ⟨n, hn⟩ : ∃ n, (u.scheme ++ sepS ++ u.host).length = n := ⟨_, rfl⟩
  rw [hn] at hrow' hsl
  obtain ⟨qr, cr, rfl, _, _, _, _, _⟩ := row_open hrow'
  have HLN := Lib.hid hn
  have c0' := hb 0 _ rfl
  have c2' := hb 2 _ rfl
  clear hn hb hs1 hs2
  generalize ownP u.scheme = own at *
  go_wp2_with fail
  refine pregion_any (fun X => X.cell? ⟨w.heap.size, 0, none⟩ = some (.slice q0 n0 c0) ∧ X.cell? ⟨w.heap.size, 2, none⟩ = some (.int .i64 u.port)) (by kernel_rfl) ?_
  have hS0 : W3.drew.cell? ⟨w.heap.size, 0, none⟩ = some (.slice q0 n0 c0) ∧ W3.drew.cell? ⟨w.heap.size, 2, none⟩ = some (.int .i64 u.port) := ⟨c0', c2'⟩
  have hBd : Below W3.heap.size W3 W3.drew := (Below.refl _ _).drew
  have conO' := conO _ hBd
  have hrd : W3.drew.ownsRow (w.heap.size + 1) 5 1 (.slice qr n cr) n (byV (u.scheme ++ sepS ++ u.host)) := hrow'
  have hB3d : Below w.heap.size w W3.drew := hB3.drew
  clear c0' c2' conO hrow' hB3 hBd g0'
  generalize W3.drew = X at *
  refine wpAnyH_take (i := 0) (v := (.pointer (some ⟨w.heap.size, 2, none⟩))) rfl (by kernel_rfl) (by kernel_rfl) (by kernel_rfl) (fun _ _ _ h => h) (.inl ⟨by kernel_rfl, ?_⟩) hS0 ?_
  · rintro w ⟨h1, h2⟩; go_simp
  refine plist #[true, false, false, false, false, false] (by kernel_rfl) ?_
  refine wpAnyH_take (i := 1) (v := (.int .i64 u.port)) rfl (by kernel_rfl) (by kernel_rfl) (by kernel_rfl) (fun _ _ _ h => h) (.inl ⟨by kernel_rfl, ?_⟩) hS0 ?_
  · rintro w ⟨h1, h2⟩; go_simp
  refine plist #[true, true, false, false, false, false] (by kernel_rfl) ?_
  refine wpAnyH_take (i := 2) (v := (.pointer (some ⟨w.heap.size, 0, none⟩))) rfl (by kernel_rfl) (by kernel_rfl) (by kernel_rfl) (fun _ _ _ h => h) (.inl ⟨by kernel_rfl, ?_⟩) hS0 ?_
  · rintro w ⟨h1, h2⟩; go_simp
  refine plist #[true, true, true, false, false, false] (by kernel_rfl) ?_
  refine wpAnyH_take (i := 3) (v := (.slice q0 n0 c0)) rfl (by kernel_rfl) (by kernel_rfl) (by kernel_rfl) (fun _ _ _ h => h) (.inl ⟨by kernel_rfl, ?_⟩) hS0 ?_
  · rintro w ⟨h1, h2⟩; go_simp
  refine plist #[true, true, true, true, false, false] (by kernel_rfl) ?_
  refine pone 4 (by kernel_rfl) rfl fun K hK => ?_
  go_simp
  refine conO'.mono ?_
  rintro e X4 ⟨rfl, hb4⟩
  have hS4 := And.intro (cell_on hS0.1 hb4) (cell_on hS0.2 hb4)
  have hB4 := hB3d.trans (hb4.mono hB3d.size)
  have hr4 := (Keep.of_below hb4).row hrd (fun k hk => (hrd.lt k hk).2)
  refine hK _ _ hS4 ?_
  clear hK K conO' hS0 hB3d hrd
  refine plist #[true, true, true, true, true, false] (by kernel_rfl) ?_
  by_cases hpo : u.port = own
  · have e5 : ((u.port : Int) == (own : Int)) = true := by rw [beq_iff_eq]; omega
    have H := Lib.hid (show serverT u = u.scheme ++ sepS ++ u.host by rw [HST.out, HPT.out, if_pos hpo, List.append_nil])
    refine wpAnyH_take (i := 5) (v := (.bool true)) rfl (by kernel_rfl) (by kernel_rfl) (by kernel_rfl) (fun _ _ _ h => h) (.inl ⟨by kernel_rfl, ?_⟩) hS4 ?_
    · rintro w ⟨h1, h2⟩; go_simp
    refine pdone (by kernel_rfl) ?_ _
    go_wp2
    go_ret
    refine ⟨_, rfl, ?_, hB4⟩
    rw [H.out, HLN.out]; exact row_base hr4 (Nat.le_succ _)
  · have e5 : ((u.port : Int) == (own : Int)) = false := by rw [beq_eq_false_iff_ne]; omega
    have H := Lib.hid (show serverT u = (u.scheme ++ sepS ++ u.host ++ [58]) ++ digL u.port by rw [HST.out, HPT.out, if_neg hpo]; simp)
    refine wpAnyH_take (i := 5) (v := (.bool false)) rfl (by kernel_rfl) (by kernel_rfl) (by kernel_rfl) (fun _ _ _ h => h) (.inl ⟨by kernel_rfl, ?_⟩) hS4 ?_
    · rintro w ⟨h1, h2⟩; go_simp
    refine pdone (by kernel_rfl) ?_ _
    clear e5
    go_wp2_with fail
    refine pregion_any (fun X => X.cell? ⟨w.heap.size, 2, none⟩ = some (.int .i64 u.port)) (by kernel_rfl) ?_
    have hS5 : X4.drew.cell? ⟨w.heap.size, 2, none⟩ = some (.int .i64 u.port) := hS4.2
    have hr5 : X4.drew.ownsRow (w.heap.size + 1) 5 1 (.slice qr n cr) n (byV (u.scheme ++ sepS ++ u.host)) := hr4
    have hB5 : Below w.heap.size w X4.drew := hB4.drew
    have hgt : w.heap.size + 1 ≤ X4.drew.heap.size := World.block_lt_of_cell? _ _ hS5
    clear hS4 hr4 hB4
    generalize X4.drew = Y at *
    refine wpAnyH_take (i := 0) (v := (.slice qr n cr)) rfl (by kernel_rfl) (by kernel_rfl) (by kernel_rfl) (fun _ _ _ h => h) (.inl ⟨by kernel_rfl, ?_⟩) hS5 ?_
    · rintro w h1; go_simp
    refine plist #[true, false, false, false, false, false, false] (by kernel_rfl) ?_
    refine wpAnyH_take (i := 3) (v := (.pointer (some ⟨w.heap.size, 2, none⟩))) rfl (by kernel_rfl) (by kernel_rfl) (by kernel_rfl) (fun _ _ _ h => h) (.inl ⟨by kernel_rfl, ?_⟩) hS5 ?_
    · rintro w h1; go_simp
    refine plist #[true, false, false, true, false, false, false] (by kernel_rfl) ?_
    refine wpAnyH_take (i := 4) (v := (.int .i64 u.port)) rfl (by kernel_rfl) (by kernel_rfl) (by kernel_rfl) (fun _ _ _ h => h) (.inl ⟨by kernel_rfl, ?_⟩) hS5 ?_
    · rintro w h1; go_simp
    refine plist #[true, false, false, true, true, false, false] (by kernel_rfl) ?_
    refine pone 1 (by kernel_rfl) rfl fun K hK => ?_
    go_simp
    have hbl := (Below.refl Y.heap.size Y).alloc (Nat.le_refl _) (.cells #[.int .u8 58] 5)
    have hS6 := cell_on hS5 hbl
    refine hK _ _ hS6 ?_
    clear hK K
    refine plist #[true, true, false, true, true, false, false] (by kernel_rfl) ?_
    refine pone 2 (by kernel_rfl) rfl fun K hK => ?_
    rw [if_pos (by rfl)]
    have hsY := hB5.size
    refine wp_append_by (Operand.tmp 19) (Operand.tmp 20) rfl (w.heap.size + 1) (.slice qr n cr) n _ rfl (hr5.alloc _) _ [58] rfl (by_lit Y #[.int .u8 58] [58] (0, 0) 1 rfl rfl (by decide)) (by simp; omega) (by simp; omega) ?_
    intro v7 Z hr7 hg7
    have hb7 : Below (w.heap.size + 1) Y Z := (hbl.mono hgt).trans (grown_below (hr5.alloc _) hg7 (by simp; omega))
    have hB7 := hB5.trans (hb7.mono (Nat.le_succ _))
    have hS7 : Z.cell? ⟨w.heap.size, 2, none⟩ = some (.int .i64 u.port) := cell_below hS5 hb7 (Nat.lt_succ_self _)
    refine hK _ _ hS7 ?_
    clear hK K
    refine plist #[true, true, true, true, true, false, false] (by kernel_rfl) ?_
    refine pone 5 (by kernel_rfl) rfl fun K hK => ?_
    go_simp
    refine (AppendInt_any (w.heap.size + 1) (n + 1) u.port v7 _ Z hr7 hp2 (Nat.le_trans hgt hb7.size) (by omega) (Gl.tab hG hB7 (Nat.le_succ _))).mono ?_
    rintro e V ⟨v8, rfl, hr8, hb8⟩
    have hS8 := cell_below hS7 hb8 (Nat.lt_succ_self _)
    refine hK _ _ hS8 ?_
    clear hK K
    refine plist #[true, true, true, true, true, true, false] (by kernel_rfl) ?_
    refine pone 6 (by kernel_rfl) rfl fun K hK => ?_
    go_simp
    refine hK _ _ hS8 ?_
    clear hK K
    refine pdone (by kernel_rfl) ?_ _
    go_wp2
    go_ret
    refine ⟨_, rfl, ?_, hB7.trans (hb8.mono (Nat.le_succ _))⟩
    rw [H.out, List.length_append, List.length_append, HLN.out, byV_app, byV_app]
    exact row_base hr8 (Nat.le_succ _)
end Go.Proofs.YtniehbjoogaccaaGreatDoor.Url
namespace Go.Proofs.YtniehbjoogaccaaGreatDoor.Url
open Go.RowKit Go.Shelf
attribute [local go_sem] Oper.semAt_some
def Box (B : Nat) (cs : Array Value) (X : World) : Prop := ∀ i x, cs[i]? = some x → X.cell? ⟨B, i, none⟩ = some x
theorem Box.on {B : Nat} {cs : Array Value} {X Y : World} (h : Box B cs X) (hk : Below X.heap.size X Y) : Box B cs Y := fun i x hx => cell_on (h i x hx) hk
theorem Box.below {B M : Nat} {cs : Array Value} {X Y : World} (h : Box B cs X) (hk : Below M X Y) (hB : B < M) : Box B cs Y := fun i x hx => cell_below (h i x hx) hk hB
theorem Box.new (w : World) (cs : Array Value) (t : TypeId) : Box w.heap.size cs (w.alloc (.cells cs t)) := fun i x h => box_cell w cs t i x h
set_option maxRecDepth 100000 in
set_option maxHeartbeats 8000000 in
theorem Text_any (u : U) (v : Value) (w : World) (h : UrlIn w v u) (hok : Ok u) (hG : Gl w) (hlen : (textU u).length ≤ 1048576) :
    Calls Tryz.prog 36 #[v] w fun e w' => ∃ v', e = .returned v' ∧ w'.ownsRow w.heap.size 5 1 v' (textU u).length (byV (textU u)) ∧ Below w.heap.size w w' := by
  obtain ⟨q0, n0, c0, q1, n1, c1, q3, n3, c3, q4, n4, c4, q5, n5, c5, rfl, h0, h1, h3, h4, h5⟩ := h
  have hT := text_server u
  have hql : (queryT u).length = if u.hq then u.query.length + 1 else 0 := by unfold queryT; split <;> simp
  have hfl : (fragT u).length = if u.hf then u.frag.length + 1 else 0 := by unfold fragT; split <;> simp
  have hlt : (serverT u).length + u.path.length + (queryT u).length + (fragT u).length ≤ 1048576 := by rw [hT] at hlen; simp only [List.length_append] at hlen; omega
  have HQ := Lib.hid (show queryT u = if u.hq then 63 :: u.query else [] from rfl)
  have HF := Lib.hid (show fragT u = if u.hf then 35 :: u.frag else [] from rfl)
  have HT := Lib.hid hT
  clear hT
  obtain ⟨W1, hW1⟩ : ∃ W1, w.alloc (.cells #[.slice q0 n0 c0, .slice q1 n1 c1, .int .i64 u.port, .slice q3 n3 c3, .slice q4 n4 c4, .slice q5 n5 c5, .bool u.hq, .bool u.hf] 33) = W1 := ⟨_, rfl⟩
  have hs1 : W1.heap.size = w.heap.size + 1 := by rw [← hW1]; simp
  have hB1 : Below w.heap.size w W1 := by rw [← hW1]; exact (Below.refl _ w).alloc (Nat.le_refl _) _
  have hbox : Box w.heap.size #[.slice q0 n0 c0, .slice q1 n1 c1, .int .i64 u.port, .slice q3 n3 c3, .slice q4 n4 c4, .slice q5 n5 c5, .bool u.hq, .bool u.hf] W1 := by rw [← hW1]; exact Box.new w _ _
  have hin : UrlIn W1 (.agg #[.slice q0 n0 c0, .slice q1 n1 c1, .int .i64 u.port, .slice q3 n3 c3, .slice q4 n4 c4, .slice q5 n5 c5, .bool u.hq, .bool u.hf]) u := UrlIn.on ⟨q0, n0, c0, q1, n1, c1, q3, n3, c3, q4, n4, c4, q5, n5, c5, rfl, h0, h1, h3, h4, h5⟩ hB1
  have con := fun X (hX : Below W1.heap.size W1 X) => server_any u _ X (hin.on hX) hok ((hG.on hB1).on hX) hlen
  have HW1 := Lib.hid hW1
  clear hW1 hin hok hG hlen
  generalize u.hq = bq at *
  generalize u.hf = bf at *
  go_enter Tryz.func36, Tryz.ntmps36
  go_wp2_with fail
  rw [HW1.out]
  refine pregion_any (Box w.heap.size #[.slice q0 n0 c0, .slice q1 n1 c1, .int .i64 u.port, .slice q3 n3 c3, .slice q4 n4 c4, .slice q5 n5 c5, .bool bq, .bool bf]) (by kernel_rfl) ?_
  have hS0 : Box w.heap.size #[.slice q0 n0 c0, .slice q1 n1 c1, .int .i64 u.port, .slice q3 n3 c3, .slice q4 n4 c4, .slice q5 n5 c5, .bool bq, .bool bf] W1.drew := hbox
  have con' := con _ ((Below.refl _ _).drew)
  have hBd : Below w.heap.size w W1.drew := hB1.drew
  have hsd : W1.drew.heap.size = w.heap.size + 1 := hs1
  clear con hbox HW1 hB1 hs1
  generalize W1.drew = X at *
  refine wpAnyH_take (i := 0) (v := (.agg #[.slice q0 n0 c0, .slice q1 n1 c1, .int .i64 u.port, .slice q3 n3 c3, .slice q4 n4 c4, .slice q5 n5 c5, .bool bq, .bool bf])) rfl (by kernel_rfl) (by kernel_rfl) (by kernel_rfl) (fun _ _ _ h => h) (.inl ⟨by kernel_rfl, ?_⟩) hS0 ?_
  · rintro w h; have e0 := h 0 _ rfl; have e1 := h 1 _ rfl; have e2 := h 2 _ rfl; have e3 := h 3 _ rfl; have e4 := h 4 _ rfl; have e5 := h 5 _ rfl; have e6 := h 6 _ rfl; have e7 := h 7 _ rfl; go_simp
  refine plist #[true, false, false, false, false, false] (by kernel_rfl) ?_
  refine wpAnyH_take (i := 2) (v := (.pointer (some ⟨w.heap.size, 3, none⟩))) rfl (by kernel_rfl) (by kernel_rfl) (by kernel_rfl) (fun _ _ _ h => h) (.inl ⟨by kernel_rfl, ?_⟩) hS0 ?_
  · rintro w h; go_simp
  refine plist #[true, false, true, false, false, false] (by kernel_rfl) ?_
  refine wpAnyH_take (i := 3) (v := (.slice q3 n3 c3)) rfl (by kernel_rfl) (by kernel_rfl) (by kernel_rfl) (fun _ _ _ h => h) (.inl ⟨by kernel_rfl, ?_⟩) hS0 ?_
  · rintro w h; have h' := h 3 _ rfl; go_simp
  refine plist #[true, false, true, true, false, false] (by kernel_rfl) ?_
  refine pone 1 (by kernel_rfl) rfl fun K hK => ?_
  go_simp
  refine con'.mono ?_
  rintro e X1 ⟨v1, rfl, hr1, hb1⟩
  rw [hsd] at hr1 hb1
  have hS1 := Box.below hS0 hb1 (Nat.lt_succ_self _)
  have hB1 := hBd.trans (hb1.mono (Nat.le_succ _))
  have hgt1 : w.heap.size + 1 ≤ X1.heap.size := by have := hb1.size; omega
  refine hK _ _ hS1 ?_
  clear hK K con' hS0 hBd
  refine plist #[true, true, true, true, false, false] (by kernel_rfl) ?_
  refine pone 4 (by kernel_rfl) rfl fun K hK => ?_
  rw [if_pos (by rfl)]
  refine wp_append_by (Operand.tmp 5) (Operand.tmp 7) rfl (w.heap.size + 1) v1 _ _ rfl hr1 _ u.path rfl (h3.on hB1) (by omega) hgt1 ?_
  intro v2 Y hr hg2
  have hb2 := grown_below hr1 hg2 hgt1
  have hS := Box.below hS1 hb2 (Nat.lt_succ_self _)
  have hB := hB1.trans (hb2.mono (Nat.le_succ _))
  have hgt : w.heap.size + 1 ≤ Y.heap.size := Nat.le_trans hgt1 hb2.size
  refine hK _ _ hS ?_
  clear hK K hb1 hr1 hS1 hB1 hgt1 hg2 hb2
  refine plist #[true, true, true, true, true, false] (by kernel_rfl) ?_
  refine pone 5 (by kernel_rfl) rfl fun K hK => ?_
  go_simp
  refine hK _ _ hS ?_
  clear hK K
  refine pdone (by kernel_rfl) ?_ _
  rw [← byV_app] at hr
  have HLA := Lib.hid (show (serverT u ++ u.path).length = (serverT u).length + u.path.length from List.length_append)
  obtain ⟨q2, c2, rfl, _, _, _, _, _⟩ := row_open hr
  have h6 := hS 6 _ rfl
  cases bq with
  | false =>
    have h7 := hS 7 _ rfl
    cases bf with
    | false =>
      go_wp2
      go_ret
      have HE : textU u = serverT u ++ u.path := by rw [HT.out, HQ.out, HF.out]; simp
      rw [HE]
      have hll : (serverT u ++ u.path).length = (serverT u).length + u.path.length := by simp only [List.length_append]
      rw [hll]
      exact ⟨_, rfl, row_base hr (Nat.le_succ _), hB⟩
    | true =>
      rw [if_pos rfl] at hfl
      go_wp2_with fail
      refine pregion_any (Box w.heap.size #[.slice q0 n0 c0, .slice q1 n1 c1, .int .i64 u.port, .slice q3 n3 c3, .slice q4 n4 c4, .slice q5 n5 c5, .bool false, .bool true]) (by kernel_rfl) ?_
      have hSe : Box w.heap.size #[.slice q0 n0 c0, .slice q1 n1 c1, .int .i64 u.port, .slice q3 n3 c3, .slice q4 n4 c4, .slice q5 n5 c5, .bool false, .bool true] Y.drew := hS
      have hre := (Keep.drew (fun _ => True) Y).row hr (fun _ _ => trivial)
      have hBe : Below w.heap.size w Y.drew := hB.drew
      have hgte : w.heap.size + 1 ≤ Y.drew.heap.size := hgt
      clear hS hr hB hgt
      generalize Y.drew = Ye at *
      refine wpAnyH_take (i := 0) (v := (.slice q2 ((serverT u).length + u.path.length) c2)) rfl (by kernel_rfl) (by kernel_rfl) (by kernel_rfl) (fun _ _ _ h => h) (.inl ⟨by kernel_rfl, ?_⟩) hSe ?_
      · rintro w h; go_simp
      refine plist #[true, false, false, false, false, false, false] (by kernel_rfl) ?_
      refine wpAnyH_take (i := 3) (v := (.pointer (some ⟨w.heap.size, 5, none⟩))) rfl (by kernel_rfl) (by kernel_rfl) (by kernel_rfl) (fun _ _ _ h => h) (.inl ⟨by kernel_rfl, ?_⟩) hSe ?_
      · rintro w h; go_simp
      refine plist #[true, false, false, true, false, false, false] (by kernel_rfl) ?_
      refine wpAnyH_take (i := 4) (v := (.slice q5 n5 c5)) rfl (by kernel_rfl) (by kernel_rfl) (by kernel_rfl) (fun _ _ _ h => h) (.inl ⟨by kernel_rfl, ?_⟩) hSe ?_
      · rintro w h; have h' := h 5 _ rfl; go_simp
      refine plist #[true, false, false, true, true, false, false] (by kernel_rfl) ?_
      refine pone 1 (by kernel_rfl) rfl fun K hK => ?_
      go_simp
      refine hK _ _ (Box.on hSe ((Below.refl _ _).alloc (Nat.le_refl _) _)) ?_
      clear hK K
      refine plist #[true, true, false, true, true, false, false] (by kernel_rfl) ?_
      refine pone 2 (by kernel_rfl) rfl fun K hK => ?_
      rw [if_pos (by rfl)]
      refine wp_append_by (Operand.tmp 19) (Operand.tmp 20) rfl (w.heap.size + 1) _ _ _ rfl (hre.alloc _) _ [35] rfl (by_lit Ye #[.int .u8 35] [35] (0, 0) 1 rfl rfl (by decide)) (by simp; omega) (by simp; omega) ?_
      intro va Za hra hga
      have hba : Below (w.heap.size + 1) Ye Za := (((Below.refl Ye.heap.size Ye).alloc (Nat.le_refl _) (.cells #[.int .u8 35] 5)).mono hgte).trans (grown_below (hre.alloc _) hga (by simp; omega))
      have hSa := Box.below hSe hba (Nat.lt_succ_self _)
      refine hK _ _ hSa ?_
      clear hK K
      refine plist #[true, true, true, true, true, false, false] (by kernel_rfl) ?_
      refine pone 5 (by kernel_rfl) rfl fun K hK => ?_
      rw [if_pos (by rfl)]
      refine wp_append_by (Operand.tmp 21) (Operand.tmp 23) rfl (w.heap.size + 1) va _ _ rfl hra _ u.frag rfl (h5.on (hBe.trans (hba.mono (Nat.le_succ _)))) (by simp; omega) (Nat.le_trans hgte hba.size) ?_
      intro vf Yf hrf hgb
      have hbb : Below (w.heap.size + 1) Ye Yf := hba.trans (grown_below hra hgb (Nat.le_trans hgte hba.size))
      have hSf := Box.below hSe hbb (Nat.lt_succ_self _)
      refine hK _ _ hSf ?_
      clear hK K
      refine plist #[true, true, true, true, true, true, false] (by kernel_rfl) ?_
      refine pone 6 (by kernel_rfl) rfl fun K hK => ?_
      go_simp
      refine hK _ _ hSf ?_
      clear hK K
      refine pdone (by kernel_rfl) ?_ _
      have hBf := hBe.trans (hbb.mono (Nat.le_succ _))
      have hgtf := Nat.le_trans hgte hbb.size
      rw [List.length_singleton, ← byV_app, ← byV_app] at hrf
      obtain ⟨qf, ccf, rfl, _, _, _, _, _⟩ := row_open hrf
      clear hra hga hba hgb hbb hSa hSe hre hBe hgte
      go_wp2
      go_ret
      have HE : textU u = (serverT u ++ u.path) ++ [35] ++ u.frag := by rw [HT.out, HQ.out, HF.out]; simp
      rw [HE]
      have hll : ((serverT u ++ u.path) ++ [35] ++ u.frag).length = (serverT u).length + u.path.length + 1 + u.frag.length := by simp only [List.length_append, List.length_cons, List.length_nil]
      rw [hll]
      exact ⟨_, rfl, row_base hrf (Nat.le_succ _), hBf⟩
  | true =>
    rw [if_pos rfl] at hql
    go_wp2_with fail
    refine pregion_any (Box w.heap.size #[.slice q0 n0 c0, .slice q1 n1 c1, .int .i64 u.port, .slice q3 n3 c3, .slice q4 n4 c4, .slice q5 n5 c5, .bool true, .bool bf]) (by kernel_rfl) ?_
    have hSb : Box w.heap.size #[.slice q0 n0 c0, .slice q1 n1 c1, .int .i64 u.port, .slice q3 n3 c3, .slice q4 n4 c4, .slice q5 n5 c5, .bool true, .bool bf] Y.drew := hS
    have hrb := (Keep.drew (fun _ => True) Y).row hr (fun _ _ => trivial)
    have hBb : Below w.heap.size w Y.drew := hB.drew
    have hgtb : w.heap.size + 1 ≤ Y.drew.heap.size := hgt
    clear hS hr hB hgt
    generalize Y.drew = Yb at *
    refine wpAnyH_take (i := 0) (v := (.slice q2 ((serverT u).length + u.path.length) c2)) rfl (by kernel_rfl) (by kernel_rfl) (by kernel_rfl) (fun _ _ _ h => h) (.inl ⟨by kernel_rfl, ?_⟩) hSb ?_
    · rintro w h; go_simp
    refine plist #[true, false, false, false, false, false, false] (by kernel_rfl) ?_
    refine wpAnyH_take (i := 3) (v := (.pointer (some ⟨w.heap.size, 4, none⟩))) rfl (by kernel_rfl) (by kernel_rfl) (by kernel_rfl) (fun _ _ _ h => h) (.inl ⟨by kernel_rfl, ?_⟩) hSb ?_
    · rintro w h; go_simp
    refine plist #[true, false, false, true, false, false, false] (by kernel_rfl) ?_
    refine wpAnyH_take (i := 4) (v := (.slice q4 n4 c4)) rfl (by kernel_rfl) (by kernel_rfl) (by kernel_rfl) (fun _ _ _ h => h) (.inl ⟨by kernel_rfl, ?_⟩) hSb ?_
    · rintro w h; have h' := h 4 _ rfl; go_simp
    refine plist #[true, false, false, true, true, false, false] (by kernel_rfl) ?_
    refine pone 1 (by kernel_rfl) rfl fun K hK => ?_
    go_simp
    refine hK _ _ (Box.on hSb ((Below.refl _ _).alloc (Nat.le_refl _) _)) ?_
    clear hK K
    refine plist #[true, true, false, true, true, false, false] (by kernel_rfl) ?_
    refine pone 2 (by kernel_rfl) rfl fun K hK => ?_
    rw [if_pos (by rfl)]
    refine wp_append_by (Operand.tmp 11) (Operand.tmp 12) rfl (w.heap.size + 1) _ _ _ rfl (hrb.alloc _) _ [63] rfl (by_lit Yb #[.int .u8 63] [63] (0, 0) 1 rfl rfl (by decide)) (by simp; omega) (by simp; omega) ?_
    intro va Za hra hga
    have hba : Below (w.heap.size + 1) Yb Za := (((Below.refl Yb.heap.size Yb).alloc (Nat.le_refl _) (.cells #[.int .u8 63] 5)).mono hgtb).trans (grown_below (hrb.alloc _) hga (by simp; omega))
    have hSa := Box.below hSb hba (Nat.lt_succ_self _)
    refine hK _ _ hSa ?_
    clear hK K
    refine plist #[true, true, true, true, true, false, false] (by kernel_rfl) ?_
    refine pone 5 (by kernel_rfl) rfl fun K hK => ?_
    rw [if_pos (by rfl)]
    refine wp_append_by (Operand.tmp 13) (Operand.tmp 15) rfl (w.heap.size + 1) va _ _ rfl hra _ u.query rfl (h4.on (hBb.trans (hba.mono (Nat.le_succ _)))) (by simp; omega) (Nat.le_trans hgtb hba.size) ?_
    intro vc Yc hrc hgb
    have hbb : Below (w.heap.size + 1) Yb Yc := hba.trans (grown_below hra hgb (Nat.le_trans hgtb hba.size))
    have hSc := Box.below hSb hbb (Nat.lt_succ_self _)
    refine hK _ _ hSc ?_
    clear hK K
    refine plist #[true, true, true, true, true, true, false] (by kernel_rfl) ?_
    refine pone 6 (by kernel_rfl) rfl fun K hK => ?_
    go_simp
    refine hK _ _ hSc ?_
    clear hK K
    refine pdone (by kernel_rfl) ?_ _
    have hBc := hBb.trans (hbb.mono (Nat.le_succ _))
    have hgtc := Nat.le_trans hgtb hbb.size
    rw [List.length_singleton, ← byV_app, ← byV_app] at hrc
    obtain ⟨qc, ccc, rfl, _, _, _, _, _⟩ := row_open hrc
    clear hra hga hba hgb hbb hSa hSb hrb hBb hgtb
    have h7 := hSc 7 _ rfl
    cases bf with
    | false =>
      go_wp2
      go_ret
      have HE : textU u = (serverT u ++ u.path) ++ [63] ++ u.query := by rw [HT.out, HQ.out, HF.out]; simp
      rw [HE]
      have hll : ((serverT u ++ u.path) ++ [63] ++ u.query).length = (serverT u).length + u.path.length + 1 + u.query.length := by simp only [List.length_append, List.length_cons, List.length_nil]
      rw [hll]
      exact ⟨_, rfl, row_base hrc (Nat.le_succ _), hBc⟩
    | true =>
      rw [if_pos rfl] at hfl
      go_wp2_with fail
      refine pregion_any (Box w.heap.size #[.slice q0 n0 c0, .slice q1 n1 c1, .int .i64 u.port, .slice q3 n3 c3, .slice q4 n4 c4, .slice q5 n5 c5, .bool true, .bool true]) (by kernel_rfl) ?_
      have hSe : Box w.heap.size #[.slice q0 n0 c0, .slice q1 n1 c1, .int .i64 u.port, .slice q3 n3 c3, .slice q4 n4 c4, .slice q5 n5 c5, .bool true, .bool true] Yc.drew := hSc
      have hre := (Keep.drew (fun _ => True) Yc).row hrc (fun _ _ => trivial)
      have hBe : Below w.heap.size w Yc.drew := hBc.drew
      have hgte : w.heap.size + 1 ≤ Yc.drew.heap.size := hgtc
      clear hSc hrc hBc hgtc
      generalize Yc.drew = Ye at *
      refine wpAnyH_take (i := 0) (v := (.slice qc ((serverT u).length + u.path.length + 1 + u.query.length) ccc)) rfl (by kernel_rfl) (by kernel_rfl) (by kernel_rfl) (fun _ _ _ h => h) (.inl ⟨by kernel_rfl, ?_⟩) hSe ?_
      · rintro w h; go_simp
      refine plist #[true, false, false, false, false, false, false] (by kernel_rfl) ?_
      refine wpAnyH_take (i := 3) (v := (.pointer (some ⟨w.heap.size, 5, none⟩))) rfl (by kernel_rfl) (by kernel_rfl) (by kernel_rfl) (fun _ _ _ h => h) (.inl ⟨by kernel_rfl, ?_⟩) hSe ?_
      · rintro w h; go_simp
      refine plist #[true, false, false, true, false, false, false] (by kernel_rfl) ?_
      refine wpAnyH_take (i := 4) (v := (.slice q5 n5 c5)) rfl (by kernel_rfl) (by kernel_rfl) (by kernel_rfl) (fun _ _ _ h => h) (.inl ⟨by kernel_rfl, ?_⟩) hSe ?_
      · rintro w h; have h' := h 5 _ rfl; go_simp
      refine plist #[true, false, false, true, true, false, false] (by kernel_rfl) ?_
      refine pone 1 (by kernel_rfl) rfl fun K hK => ?_
      go_simp
      refine hK _ _ (Box.on hSe ((Below.refl _ _).alloc (Nat.le_refl _) _)) ?_
      clear hK K
      refine plist #[true, true, false, true, true, false, false] (by kernel_rfl) ?_
      refine pone 2 (by kernel_rfl) rfl fun K hK => ?_
      rw [if_pos (by rfl)]
      refine wp_append_by (Operand.tmp 19) (Operand.tmp 20) rfl (w.heap.size + 1) _ _ _ rfl (hre.alloc _) _ [35] rfl (by_lit Ye #[.int .u8 35] [35] (0, 0) 1 rfl rfl (by decide)) (by simp; omega) (by simp; omega) ?_
      intro va Za hra hga
      have hba : Below (w.heap.size + 1) Ye Za := (((Below.refl Ye.heap.size Ye).alloc (Nat.le_refl _) (.cells #[.int .u8 35] 5)).mono hgte).trans (grown_below (hre.alloc _) hga (by simp; omega))
      have hSa := Box.below hSe hba (Nat.lt_succ_self _)
      refine hK _ _ hSa ?_
      clear hK K
      refine plist #[true, true, true, true, true, false, false] (by kernel_rfl) ?_
      refine pone 5 (by kernel_rfl) rfl fun K hK => ?_
      rw [if_pos (by rfl)]
      refine wp_append_by (Operand.tmp 21) (Operand.tmp 23) rfl (w.heap.size + 1) va _ _ rfl hra _ u.frag rfl (h5.on (hBe.trans (hba.mono (Nat.le_succ _)))) (by simp; omega) (Nat.le_trans hgte hba.size) ?_
      intro vf Yf hrf hgb
      have hbb : Below (w.heap.size + 1) Ye Yf := hba.trans (grown_below hra hgb (Nat.le_trans hgte hba.size))
      have hSf := Box.below hSe hbb (Nat.lt_succ_self _)
      refine hK _ _ hSf ?_
      clear hK K
      refine plist #[true, true, true, true, true, true, false] (by kernel_rfl) ?_
      refine pone 6 (by kernel_rfl) rfl fun K hK => ?_
      go_simp
      refine hK _ _ hSf ?_
      clear hK K
      refine pdone (by kernel_rfl) ?_ _
      have hBf := hBe.trans (hbb.mono (Nat.le_succ _))
      have hgtf := Nat.le_trans hgte hbb.size
      rw [List.length_singleton, ← byV_app, ← byV_app] at hrf
      obtain ⟨qf, ccf, rfl, _, _, _, _, _⟩ := row_open hrf
      clear hra hga hba hgb hbb hSa hSe hre hBe hgte
      go_wp2
      go_ret
      have HE : textU u = ((serverT u ++ u.path) ++ [63] ++ u.query) ++ [35] ++ u.frag := by rw [HT.out, HQ.out, HF.out]; simp
      rw [HE]
      have hll : (((serverT u ++ u.path) ++ [63] ++ u.query) ++ [35] ++ u.frag).length = (serverT u).length + u.path.length + 1 + u.query.length + 1 + u.frag.length := by simp only [List.length_append, List.length_cons, List.length_nil]
      rw [hll]
      exact ⟨_, rfl, row_base hrf (Nat.le_succ _), hBf⟩
end Go.Proofs.YtniehbjoogaccaaGreatDoor.Url
namespace Go.Proofs.YtniehbjoogaccaaGreatDoor.Url
open Go.RowKit Go.Shelf
attribute [local go_sem] Oper.semAt_some
def zeroU : Array Value := #[.slice none 0 0, .slice none 0 0, .int .i64 0, .slice none 0 0, .slice none 0 0, .slice none 0 0, .bool false, .bool false]
theorem query_le (u : U) (h : Ok u) : u.query.length ≤ (queryT u).length := by
  unfold queryT
  cases e : u.hq with
  | false => rw [h.noq e]; simp
  | true => simp
def UB (B : Nat) (cs : Array Value) (X : World) : Prop := X.heap[B]? = some (.cells cs 33 (0, 0))
theorem UB.box {B : Nat} {cs : Array Value} {X : World} (h : UB B cs X) : Box B cs X := fun i x hx => by
  simp only [World.cell?, show X.heap[B]? = _ from h]; exact hx
theorem UB.frozen {B : Nat} {cs : Array Value} {X : World} (h : UB B cs X) (i : Nat) : X.frozen? ⟨B, i, none⟩ = false := by
  simp [World.frozen?, show X.heap[B]? = _ from h]
theorem UB.on {B : Nat} {cs : Array Value} {X Y : World} (h : UB B cs X) (hk : Below X.heap.size X Y) : UB B cs Y := (hk.block B (Array.getElem?_eq_some_iff.1 h).1).trans h
theorem UB.lt {B : Nat} {cs : Array Value} {X : World} (h : UB B cs X) : B < X.heap.size := (Array.getElem?_eq_some_iff.1 h).1
theorem UB.new (w : World) (cs : Array Value) : UB w.heap.size cs (w.alloc (.cells cs 33)) := World.alloc_heap_new w _
theorem UB.set {B : Nat} {cs : Array Value} {X : World} (h : UB B cs X) (i : Nat) (v : Value) : UB B (cs.setIfInBounds i v) (X.setCell ⟨B, i, none⟩ v) := by
  obtain ⟨hlt, hk⟩ := Array.getElem?_eq_some_iff.1 h
  show (X.heap.modify B _)[B]? = _
  rw [Array.getElem?_eq_getElem (by rw [Array.size_modify]; exact hlt), Array.getElem_modify_self, hk]
  rfl
theorem UB.put {B : Nat} {X : World} {a0 a1 a2 a3 a4 a5 a6 a7 : Value} (h : UB B #[a0, a1, a2, a3, a4, a5, a6, a7] X) (v0 v1 v2 v3 v4 v5 v6 v7 : Value) :
    ∃ Y, (((((((X.setCell ⟨B, 0, none⟩ v0).setCell ⟨B, 1, none⟩ v1).setCell ⟨B, 2, none⟩ v2).setCell ⟨B, 3, none⟩ v3).setCell ⟨B, 4, none⟩ v4).setCell ⟨B, 5, none⟩ v5).setCell ⟨B, 6, none⟩ v6).setCell ⟨B, 7, none⟩ v7 = Y ∧
      UB B #[v0, v1, v2, v3, v4, v5, v6, v7] Y ∧ (∀ S : Nat → Prop, ¬ S B → Keep S X Y) ∧ ∀ M, M ≤ B → Below M X Y := by
  have h8 := (((((((h.set 0 v0).set 1 v1).set 2 v2).set 3 v3).set 4 v4).set 5 v5).set 6 v6).set 7 v7
  simp only [List.setIfInBounds_toArray, List.set_cons_zero, List.set_cons_succ] at h8
  refine ⟨_, rfl, h8, fun S hS => ?_, fun M hM => ?_⟩
  · exact (Keep.setCell _ _ _ hS).trans ((Keep.setCell _ _ _ hS).trans ((Keep.setCell _ _ _ hS).trans ((Keep.setCell _ _ _ hS).trans ((Keep.setCell _ _ _ hS).trans ((Keep.setCell _ _ _ hS).trans ((Keep.setCell _ _ _ hS).trans (Keep.setCell _ _ _ hS)))))))
  · exact (((((((((Below.refl M X).setCell (p := ⟨B, 0, none⟩) hM v0).setCell (p := ⟨B, 1, none⟩) hM v1).setCell (p := ⟨B, 2, none⟩) hM v2).setCell (p := ⟨B, 3, none⟩) hM v3).setCell (p := ⟨B, 4, none⟩) hM v4).setCell (p := ⟨B, 5, none⟩) hM v5).setCell (p := ⟨B, 6, none⟩) hM v6).setCell (p := ⟨B, 7, none⟩) hM v7)
theorem size_url : (Tryz.prog.info? 33).map (·.size) = some 8 := by kernel_rfl
theorem ret_url {fn : Func} {p : Tmp} (h : fn.results = #[.cell p 33]) (tmps : Array Value) (w : World) (B : Nat) (cs : Array Value) (hp : tmps.getD p undef = .pointer (some ⟨B, 0, none⟩)) (hU : UB B cs w) (hs : cs.size = 8) :
    (results fn tmps).run Tryz.prog w = .ok (.agg cs) w :=
  results_cell_row h tmps w B _ cs (0, 0) _ hp hU Tryz.underlying33 rfl (by rw [size_url, hs])
theorem ret_url2 {fn : Func} {p u : Tmp} (h : fn.results = #[.cell p 33, .tmp u]) (tmps : Array Value) (w : World) (B : Nat) (cs : Array Value) (hp : tmps.getD p undef = .pointer (some ⟨B, 0, none⟩)) (hU : UB B cs w) (hs : cs.size = 8) :
    (results fn tmps).run Tryz.prog w = .ok (.tuple #[.agg cs, tmps.getD u undef]) w := by
  rw [results_cell_tmp h, hp]
  simp [asAddr, Result.andThen, run_loadVar_row w B 33 _ cs (0, 0) _ hU Tryz.underlying33 rfl (by rw [size_url, hs])]
end Go.Proofs.YtniehbjoogaccaaGreatDoor.Url
namespace Go.Proofs.YtniehbjoogaccaaGreatDoor.Host
open Go.RowKit Go.Shelf
attribute [local go_sem] Oper.semAt_some
def upX (g : Bool) (l : List UInt8) : List (List UInt8) := if g then Ref.fromL 46 (Ref.splitL 46 l) else [l]
theorem upX_one (l : List UInt8) : upX false l = [l] := rfl
theorem upX_many (l : List UInt8) : upX true l = l :: (match tailL 46 l with | none => [] | some r => upX true r) := from_split 46 l
theorem tail_at (c : UInt8) : ∀ l : List UInt8, tailL c l = if atOk c l = true then some (atSnd c l) else none
  | [] => by simp [tailL, atOk, Lib.indexByte]
  | b :: r => by
    have ih := tail_at c r
    have hge := Lib.indexByte_ge r c
    by_cases h : b = c
    · subst h
      simp [tailL, atOk, atSnd, Lib.indexByte]
    · have e1 : tailL c (b :: r) = tailL c r := by conv => lhs; unfold tailL; rw [if_neg h]
      rw [e1, ih]
      by_cases h0 : 0 ≤ Lib.indexByte r c
      · obtain ⟨k, hk⟩ : ∃ k : Nat, Lib.indexByte r c = (k : Int) := ⟨(Lib.indexByte r c).toNat, by omega⟩
        have hk2 : Lib.indexByte (b :: r) c = ((k + 1 : Nat) : Int) := by
          unfold Lib.indexByte
          rw [if_neg (by simpa using h), hk, if_neg (by rw [beq_iff_eq]; omega)]; simp
        obtain ⟨_, s1, o1⟩ := at_found c r k hk
        obtain ⟨_, s2, o2⟩ := at_found c (b :: r) (k + 1) hk2
        rw [s1, o1, s2, o2]; rfl
      · have hk : Lib.indexByte r c = -1 := by omega
        have hk2 : Lib.indexByte (b :: r) c = -1 := by
          unfold Lib.indexByte
          rw [if_neg (by simpa using h), hk]; rfl
        obtain ⟨_, s1, o1⟩ := at_none c r hk
        obtain ⟨_, s2, o2⟩ := at_none c (b :: r) hk2
        rw [o1, o2]; rfl
theorem upX_found (l : List UInt8) (h : atOk 46 l = true) : upX true l = l :: upX true (atSnd 46 l) := by
  rw [upX_many, tail_at, if_pos h]
theorem upX_none (l : List UInt8) (h : atOk 46 l = false) : upX true l = [l] := by
  rw [upX_many, tail_at, if_neg (by rw [h]; simp)]
theorem atSnd_len (l : List UInt8) (h : atOk 46 l = true) : (atSnd 46 l).length < l.length := by
  have ht := tail_at 46 l
  rw [if_pos h] at ht
  exact tail_len 46 l _ ht
theorem upX_up (l : List UInt8) (h : parseE l = 0) (hl : Ref.lowL l = l) : upL l = upX (!addressB l) l := by
  unfold upL
  rw [if_pos ⟨h, hl⟩]
  have ha : addressB l = addrB (Ref.splitL 46 l) := by unfold addressB; rw [h]; rfl
  rw [ha]
  cases addrB (Ref.splitL 46 l) <;> rfl
theorem row_nil {W : World} {base : Nat} {e : TypeId} {size n c m : Nat} {xs : List Value} (h : W.ownsRow base e size (.slice none n c) m xs) : n = 0 ∧ c = 0 := by
  rcases h.2 with ⟨h1, _⟩ | ⟨g, cap, cur, h1, _⟩
  · cases h1; exact ⟨rfl, rfl⟩
  · cases h1
def sliceN : Value → Nat
  | .slice _ n _ => n
  | _ => 0
def boolN : Value → Nat
  | .bool true => 1
  | _ => 0
set_option maxRecDepth 100000 in
set_option maxHeartbeats 4000000 in
theorem Up2_iter (B Bg : Nat) (q : Option Addr) (n c : Nat) (l : List UInt8) (g : Bool) (RB : Nat → Prop) (w0 : World)
    (hl : l.length = n) (hn : n ≤ 1099511627775) (hnc : n ≤ c) (hq0 : q = none → n = 0 ∧ c = 0) (hb : Lib.BytesIn w0 q n (Lib.numsL l)) (hq : ∀ a, q = some a → 0 < n → RB a.block)
    (hB : Boxed w0 B 29 (.slice q n c)) (hRB : RB B) (hG : Boxed w0 Bg 4 (.bool g)) (hRG : RB Bg) (hRs : ∀ b, RB b → b < w0.heap.size) :
    IterC Tryz.prog 204 #[.pointer (some ⟨B, 0, none⟩), .pointer (some ⟨Bg, 0, none⟩)] RowArg (upX g l) RB w0 := by
  intro l' J Jx W hW hJ hJx hY h0
  refine (callsIn_wide (n := 1)).1 ?_
  refine callsIn_of_wp Tryz.func204 rfl trivial ?_ rfl
  simp only [Tryz.ntmps204, List.size_toArray, List.length_cons, List.length_nil, Nat.reduceAdd, Nat.reduceSub, Array.replicate_succ, Array.replicate_zero, List.push_toArray, List.append_toArray, List.nil_append, List.cons_append]
  have bB := (hW.boxed hB hRB).cell
  have hbW := bytes_keep hb hW hq
  have hll := Lib.hid hl
  gi_wp2
  gi_loopw [4, 5] (fun r m wr => Keep RB W wr ∧ ∃ pre : List (List UInt8), ∃ Q : Nat → Prop, J pre Q wr ∧ (∀ b, Q b → b < wr.heap.size) ∧
    ((m = .bool false ∧ Hid (upX g l = pre)) ∨
      (m = .bool true ∧ ∃ (qr : Option Addr) (nr cr : Nat) (lr : List UInt8), r = .slice qr nr cr ∧ Hid (lr.length = nr) ∧ nr ≤ n ∧ nr ≤ cr ∧ (qr = none → nr = 0 ∧ cr = 0) ∧ Lib.BytesIn wr qr nr (Lib.numsL lr) ∧ (∀ a, qr = some a → 0 < nr → RB a.block ∨ Q a.block) ∧ Hid (upX g l = pre ++ upX g lr)))) (fun r m _ => sliceN r + boolN m)
  case atStart =>
    exact ⟨Keep.refl _ _, [], fun _ => False, h0, fun _ h => h.elim, .inr ⟨rfl, q, n, c, l, rfl, hll, Nat.le_refl _, hnc, hq0, hbW, fun a h1 h2 => .inl (hq a h1 h2), rfl⟩⟩
  case round =>
    obtain ⟨hKr, pre, Q, hJr, hQl, ⟨rfl, HX⟩ | ⟨rfl, qr, nr, cr, lr, rfl, HL, hnr, hrc, hr0, hbr, hqr, HX⟩⟩ := hrel
    · clear hY hb hbW
      gi_wp2_with fail
      refine ⟨trivial, ?_⟩
      gi_wp2
      refine ⟨fun _ h => (by cases h), ?_⟩
      gi_wp2
      refine bodyPost_end (results_none rfl _ _ _) rfl ?_
      exact ⟨⟨_, rfl⟩, Q, hQl, .inl (by rw [HX.out]; exact hJr)⟩
    · have con := Clone_any qr nr cr lr wr HL.out (by omega) hbr
      have hgo : ∀ W', Keep RB W W' → W'.cell? ⟨Bg, 0, none⟩ = some (.bool g) := fun W' h => ((hW.trans h).boxed hG hRG).cell
      obtain ⟨r2, HX2⟩ : ∃ r2, Hid (upX g l = pre ++ lr :: r2) := by
        cases g with
        | false => exact ⟨[], Lib.hid (by rw [HX.out, upX_one])⟩
        | true => exact ⟨_, Lib.hid (by rw [HX.out, upX_many])⟩
      have key := fun (w4 : World) (v4 : Value) => yield_row (w4 := w4) (v4 := v4) (n := nr) hJ hY HX2.out hJr hQl
      have hRBl : ∀ b, RB b → b < wr.heap.size := fun b h => Nat.lt_of_lt_of_le (Nat.lt_of_lt_of_le (hRs b h) hW.size) hKr.size
      have hnl := HL.out
      clear hY hb hbW
      gi_wp2_with fail
      refine ⟨trivial, (callsIn_wide.2 con).mono ?_⟩
      rintro e w4 ⟨v4, rfl, hrow4, hbel4⟩
      obtain ⟨fn, tmps, assign, body, hy, hR⟩ := key w4 v4 hbel4 hnl hrow4
      clear key con hrow4
      gi_wp2_with fail
      refine hR.mono ?_
      rintro e W5 ⟨ok, rfl, hkp, Q', hQQ, hQl', hpost⟩
      have hk5 : Keep RB wr W5 := hkp.mono fun b _ h => .inl h
      have hbr5 := bytes_keep hbr hkp (fun a h1 h2 => hqr a h1 h2)
      have cg5 := hgo W5 (hKr.trans hk5)
      clear hR hy hbel4 hkp
      cases ok with
      | false =>
        have hj5 := (hpost.resolve_left (by simp)).2
        clear hpost
        gi_wp2
        refine bodyPost_end (results_none rfl _ _ _) rfl ?_
        exact ⟨⟨_, rfl⟩, Q', hQl', .inr ⟨pre ++ [lr], r2, by rw [HX2.out]; simp, hj5⟩⟩
      | true =>
        have hj5 := (hpost.resolve_right (by simp)).2
        have con2 := At_any qr nr cr lr 46 W5 hnl (by omega) hrc hr0 hbr5
        clear hpost
        gi_wp2_with fail
        refine ⟨trivial, (callsIn_wide.2 con2).mono ?_⟩
        rintro e w6 ⟨v1, v2, rfl, hrow1, hrow2, hbel6⟩
        have hk6 : Keep RB W w6 := (hKr.trans hk5).trans ((Keep.of_below hbel6).mono fun b hb _ => hb)
        have cg6 := hgo w6 hk6
        have hs6 := hbel6.size
        have hq6 : ∀ b, (Q' b ∨ (W5.heap.size ≤ b ∧ b < w6.heap.size)) → b < w6.heap.size := fun b hb => hb.elim (fun h => Nat.lt_of_lt_of_le (hQl' b h) hs6) And.right
        have j6 := hJ _ _ (fun b => Q' b ∨ (W5.heap.size ≤ b ∧ b < w6.heap.size)) _ _ hj5 ((Keep.of_below hbel6).mono fun b hb _ => hb) (fun b hb => ⟨hb.imp id And.left, hq6 b hb⟩)
        obtain ⟨q2, c2, rfl, _, hnc2, hcm2, hbs2, hblk2⟩ := row_open hrow2
        have hq20 : q2 = none → (atSnd 46 lr).length = 0 ∧ c2 = 0 := fun h => by subst h; exact row_nil hrow2
        have hq2b : ∀ a, q2 = some a → 0 < (atSnd 46 lr).length → RB a.block ∨ (Q' a.block ∨ (W5.heap.size ≤ a.block ∧ a.block < w6.heap.size)) := fun a ha _ => .inr (.inr ⟨(hblk2 a ha).2.1, (hblk2 a ha).1⟩)
        cases hok : atOk 46 lr with
        | false =>
          have HN := Lib.hid (show upX g l = pre ++ [lr] by
            rw [HX.out]
            cases g with
            | false => rfl
            | true => rw [upX_none lr hok])
          have hz : (atSnd 46 lr).length = 0 := by
            have := Lib.indexByte_ge lr 46
            rw [(at_none 46 lr (by unfold atOk at hok; rw [decide_eq_false_iff_not] at hok; omega)).2.1]; rfl
          rw [hz] at *
          clear con2 hrow1 hrow2 hok HX HX2 hbs2 hblk2
          gi_wp2
          go_roundw
          case rel => exact ⟨hk6, _, _, j6, hq6, .inl ⟨rfl, HN⟩⟩
          case measure => simp [sliceN, boolN]
        | true =>
          have hlt := atSnd_len lr hok
          cases g with
          | false =>
            have HN := Lib.hid (show upX false l = pre ++ [lr] by rw [HX.out]; rfl)
            clear con2 hrow1 hrow2 hok HX HX2 hbs2 hblk2
            gi_wp2
            go_roundw
            case rel => exact ⟨hk6, _, _, j6, hq6, .inl ⟨rfl, HN⟩⟩
            case measure => simp [sliceN, boolN]; omega
          | true =>
            have HN := Lib.hid (show upX true l = (pre ++ [lr]) ++ upX true (atSnd 46 lr) by rw [HX.out, upX_found lr hok]; simp)
            clear con2 hrow1 hrow2 hok HX HX2 hblk2
            gi_wp2
            go_roundw
            case rel => exact ⟨hk6, _, _, j6, hq6, .inr ⟨rfl, q2, _, c2, atSnd 46 lr, rfl, rfl, by omega, hnc2, hq20, hbs2, hq2b, HN⟩⟩
            case measure => simp [sliceN, boolN]; omega
end Go.Proofs.YtniehbjoogaccaaGreatDoor.Host
namespace Go.Proofs.YtniehbjoogaccaaGreatDoor.Host
open Go.RowKit Go.Shelf
attribute [local go_sem] Oper.semAt_some
theorem Up1_iter (w0 : World) : IterC Tryz.prog 203 #[] RowArg [] (fun _ => False) w0 := by
  intro l' J Jx W hW hJ hJx hY h0
  refine (callsIn_wide (n := 1)).1 ?_
  refine callsIn_of_wp Tryz.func203 rfl trivial ?_ rfl
  simp only [Tryz.ntmps203, List.size_toArray, List.length_cons, List.length_nil, Nat.reduceAdd, Nat.reduceSub, Array.replicate_succ, Array.replicate_zero, List.push_toArray, List.append_toArray, List.nil_append, List.cons_append]
  gi_wp2
  refine bodyPost_end (results_none rfl _ _ _) rfl ?_
  exact ⟨⟨_, rfl⟩, fun _ => False, fun _ h => h.elim, .inl h0⟩
def UpOut (xs : List (List UInt8)) (w : World) (e : Ending) (w' : World) : Prop :=
  ∃ (gf : Nat) (lb : Array Value) (RB : Nat → Prop), e = .returned (.func (.func gf) #[] lb) ∧ (∀ args w, (callFunc gf args).run Tryz.prog w = .ok (.enter gf args) w) ∧ IterC Tryz.prog gf lb RowArg xs RB w' ∧
    (∀ b, RB b → w.heap.size ≤ b ∧ b < w'.heap.size) ∧ (∀ w'' : World, (binOp .eql 211 (.func (.func gf) #[] lb) .nilFunc).run Tryz.prog w'' = .ok (.bool false) w'') ∧ Below w.heap.size w w'
theorem out_nothing {xs : List (List UInt8)} {w w' : World} (h : xs = []) (hb : Below w.heap.size w w') : UpOut xs w (.returned (.func (.func 203) #[] #[])) w' := by
  subst h
  exact ⟨_, _, _, rfl, enters_of Tryz.func203 (by kernel_rfl) rfl, Up1_iter w', fun _ h => h.elim, fun _ => by kernel_rfl, hb⟩
theorem bytes_eq (xs ys : List UInt8) : (Lib.bytesOf (Lib.numsL xs) == Lib.bytesOf (Lib.numsL ys)) = decide (xs = ys) := by
  rw [Lib.bytesOf_numsL, Lib.bytesOf_numsL, Bool.eq_iff_iff, beq_iff_eq, decide_eq_true_iff]
theorem can_at {l : List UInt8} {n : Int} {w w' : World} {e : Ending} (h : CanOut l w e w') (hn : parseE l = n) (h0 : n ≠ 0) :
    ∃ q c, e = .returned (.tuple #[.slice q 0 c, .int .i64 n]) ∧ (q = none → c = 0) ∧ Below w.heap.size w w' := by
  subst hn
  obtain ⟨v, rfl, hr, hb⟩ := h
  have hc : canL l = [] := by unfold canL; rw [if_neg h0]
  rw [hc] at hr
  have hr' : w'.ownsRow w.heap.size 5 1 v 0 ((Lib.numsL []).map (Value.int .u8)) := hr
  obtain ⟨q, c, rfl, _⟩ := row_open hr'
  exact ⟨q, c, rfl, fun h => by subst h; exact (row_nil hr').2, hb⟩
theorem can_at0 {l : List UInt8} {n : Nat} {w w' : World} {e : Ending} (h : CanOut l w e w') (hn : parseE l = 0) (hl : l.length = n) :
    ∃ q c, e = .returned (.tuple #[.slice q n c, .int .i64 0]) ∧ (q = none → n = 0 ∧ c = 0) ∧ n ≤ c ∧ w'.ownsRow w.heap.size 5 1 (.slice q n c) n ((Lib.numsL (lowL l)).map (Value.int .u8)) ∧ Below w.heap.size w w' := by
  obtain ⟨v, rfl, hr, hb⟩ := h
  have hc : canL l = lowL l := by unfold canL; rw [if_pos hn]; rfl
  rw [hc, lowL_length, hl] at hr
  obtain ⟨q, c, rfl, _, h1, _⟩ := row_open hr
  exact ⟨q, c, by rw [hn], fun h => by subst h; exact row_nil hr, h1, hr, hb⟩
set_option maxRecDepth 100000 in
set_option maxHeartbeats 4000000 in
theorem Up_any (q : Option Addr) (n c : Nat) (l : List UInt8) (w : World) (hl : l.length = n) (hn : n ≤ 1099511627775) (h : Lib.BytesIn w q n (Lib.numsL l)) :
    Calls Tryz.prog 186 #[.slice q n c] w fun e w' => UpOut (upL l) w e w' := by
  have con := Parse_any q n c l w hl (by omega) h
  have HL := Lib.hid hl
  by_cases h0 : parseE l = 0
  · have HP := Lib.hid h0
    have U1 := Lib.hid (fun hlow => upX_up l h0 hlow)
    have hq := bytes_lt h
    by_cases hlow : lowL l = l
    · have HU := Lib.hid (U1.out hlow)
      have HW := Lib.hid hlow
      have con2 := fun (p1 : Option Addr) c1 W hb1 hb2 => Tryz.bytes_Equal_all p1 q n c1 n c (Lib.numsL l) (Lib.numsL l) W (by rw [Lib.numsL_length, hl]) (by rw [Lib.numsL_length, hl]) hb1 hb2
      rw [bytes_eq, decide_eq_true rfl] at con2
      clear hl h0 hlow U1
      go_enter Tryz.func186, Tryz.ntmps186
      go_wp2_with fail
      refine con.mono ?_
      intro e w2 ho
      obtain ⟨q2, c2, rfl, hq2, hc2, hrow2, hb2⟩ := can_at0 ho HP.out HL.out
      rw [HW.out] at hrow2
      have hbx := (row_open hrow2)
      obtain ⟨_, _, hcl, _, _, _, hbs2, hblk2⟩ := hbx
      cases hcl
      have bx := Boxed.new w2 29 (.slice q2 n c2)
      have hb3 := hb2.alloc hb2.size (.cells #[.slice q2 n c2] 29)
      have hbs3 := bytes_keep hbs2 (Keep.alloc (fun _ => True) w2 (.cells #[.slice q2 n c2] 29)) (fun _ _ _ => trivial)
      have hbs3' := bytes_keep h (Keep.of_below hb3) (fun a h1 h2 => hq a h1 h2)
      have hrow3 := hrow2.alloc (.cells #[.slice q2 n c2] 29)
      have con3 := con2 q2 c2 _ hbs3 hbs3'
      obtain ⟨W3, hW3⟩ : ∃ W3, w2.alloc (.cells #[.slice q2 n c2] 29) = W3 := ⟨_, rfl⟩
      rw [hW3] at bx hb3 hbs3 hbs3' hrow3 con3
      have HW3 := Lib.hid hW3
      have con4 := Address_any q2 n c2 l W3 HL.out (by omega) hbs3
      have cx := bx.cell
      have hs3 := hb3.size
      have hs2 := hb2.size
      have hs23 : W3.heap.size = w2.heap.size + 1 := by rw [← hW3]; simp
      clear ho con con2 hrow2 hbs2 hb2 h hblk2 hbs3' hW3
      go_wp2_with fail
      rw [HW3.out]
      refine con3.mono ?_
      rintro e w' ⟨rfl, hw⟩
      subst hw
      clear con3
      go_wp2_with fail
      refine con4.mono ?_
      rintro e w4 ⟨rfl, hb4⟩
      have k4 : ∀ S : Nat → Prop, (∀ b, S b → b < w'.heap.size) → Keep S w' w4 := fun S hS => (Keep.of_below hb4).mono fun b _ h => hS b h
      have bx4 := (Keep.of_below hb4).boxed bx bx.lt
      have hrow4 := (Keep.of_below hb4).row hrow3 (fun b hb => (hrow3.lt b hb).2)
      have hb04 := hb3.trans (hb4.mono hs3)
      have hs4 := hb4.size
      generalize addressB l = ad at *
      clear con4 hrow3 hbs3 bx cx k4
      go_wp2
      go_ret
      have bg := Boxed.new w4 4 (.bool (!ad))
      have bx5 := bx4.alloc (.cells #[.bool (!ad)] 4)
      have hrow5 := hrow4.alloc (.cells #[.bool (!ad)] 4)
      have hb5 := hb04.alloc hb04.size (.cells #[.bool (!ad)] 4)
      obtain ⟨_, _, hcl, _, _, _, hbs5, hblk5⟩ := row_open hrow5
      cases hcl
      have hrl := fun b hb => hrow5.lt b hb
      have hs5 : (w4.alloc (.cells #[.bool (!ad)] 4)).heap.size = w4.heap.size + 1 := by simp
      generalize w4.alloc (.cells #[.bool (!ad)] 4) = W5 at *
      have hRl : ∀ b, (b = w2.heap.size ∨ b = w4.heap.size ∨ (Value.slice q2 n c2).ownBlock = some b) → w.heap.size ≤ b ∧ b < W5.heap.size := fun b hb => by
        rcases hb with rfl | rfl | hb
        · exact ⟨hs2, bx5.lt⟩
        · exact ⟨by omega, bg.lt⟩
        · exact hrl b hb
      refine ⟨204, _, fun b => b = w2.heap.size ∨ b = w4.heap.size ∨ (Value.slice q2 n c2).ownBlock = some b, rfl, enters_of Tryz.func204 (by kernel_rfl) rfl, ?_, hRl, fun _ => by kernel_rfl, hb5⟩
      rw [HU.out]
      exact Up2_iter w2.heap.size w4.heap.size q2 n c2 l (!ad) _ W5 HL.out hn hc2 hq2 hbs5 (fun a ha _ => .inr (.inr (hblk5 a ha).2.2)) bx5 (.inl rfl) bg (.inr (.inl rfl)) (fun b hb => (hRl b hb).2)
    · have HU := Lib.hid (show upL l = [] by unfold upL; rw [if_neg (fun h => hlow h.2)])
      have con2 := fun (p1 : Option Addr) c1 W hb1 hb2 => Tryz.bytes_Equal_all p1 q n c1 n c (Lib.numsL (lowL l)) (Lib.numsL l) W (by rw [Lib.numsL_length, lowL_length, hl]) (by rw [Lib.numsL_length, hl]) hb1 hb2
      rw [bytes_eq, decide_eq_false hlow] at con2
      clear hl h0 hlow U1
      go_enter Tryz.func186, Tryz.ntmps186
      go_wp2_with fail
      refine con.mono ?_
      intro e w2 ho
      obtain ⟨q2, c2, rfl, hq2, hc2, hrow2, hb2⟩ := can_at0 ho HP.out HL.out
      obtain ⟨_, _, hcl, _, _, _, hbs2, hblk2⟩ := row_open hrow2
      cases hcl
      have bx := Boxed.new w2 29 (.slice q2 n c2)
      have hb3 := hb2.alloc hb2.size (.cells #[.slice q2 n c2] 29)
      have hbs3 := bytes_keep hbs2 (Keep.alloc (fun _ => True) w2 (.cells #[.slice q2 n c2] 29)) (fun _ _ _ => trivial)
      have hbs3' := bytes_keep h (Keep.of_below hb3) (fun a h1 h2 => hq a h1 h2)
      have con3 := con2 q2 c2 _ hbs3 hbs3'
      clear ho con con2 hrow2 hbs2 hb2 h hblk2 hbs3' hbs3
      go_wp2_with fail
      refine con3.mono ?_
      rintro e w' ⟨rfl, hw⟩
      subst hw
      clear con3
      go_wp2
      go_ret
      exact out_nothing HU.out hb3
  · have H := Lib.hid (show upL l = [] by unfold upL; rw [if_neg (fun h => h0 h.1)])
    obtain ⟨pe, hpe⟩ : ∃ pe, parseE l = pe := ⟨_, rfl⟩
    rw [hpe] at h0
    have HP := Lib.hid hpe
    have e1 : (pe == 0) = false := by rw [beq_eq_false_iff_ne]; exact h0
    have e2 : (pe != 0) = true := by unfold bne; rw [e1]; rfl
    have H0 := Lib.hid h0
    clear hl h hpe h0
    go_enter Tryz.func186, Tryz.ntmps186
    go_wp2_with fail
    refine con.mono ?_
    intro e w2 ho
    obtain ⟨q2, c2, rfl, _, hb2⟩ := can_at ho HP.out H0.out
    clear ho con
    go_wp2
    go_ret
    exact out_nothing H.out (hb2.alloc hb2.size _)
end Go.Proofs.YtniehbjoogaccaaGreatDoor.Host
namespace Go.Proofs.YtniehbjoogaccaaGreatDoor.Url
open Go.RowKit Go.Shelf
attribute [local go_sem] Oper.semAt_some
set_option maxRecDepth 100000 in
set_option maxHeartbeats 8000000 in
theorem Bare_any (u : U) (v : Value) (w : World) (h : UrlIn w v u) (hok : Ok u) (hlen : (textU u).length ≤ 1048576) :
    Calls Tryz.prog 109 #[v] w fun e w' => ∃ v', e = .returned v' ∧ UrlIn w' v' (bareU u) ∧ Below w.heap.size w w' := by
  obtain ⟨q0, n0, c0, q1, n1, c1, q3, n3, c3, q4, n4, c4, q5, n5, c5, rfl, h0, h1, h3, h4, h5⟩ := h
  have hl0 : n0 ≤ 1048576 ∧ n1 ≤ 1048576 ∧ n3 ≤ 1048576 ∧ n4 ≤ 1048576 := by
    rw [text_server] at hlen
    unfold serverT at hlen
    simp only [List.length_append] at hlen
    have e0 := h0.at.1; have e1 := h1.at.1; have e3 := h3.at.1; have e4 := h4.at.1
    have hq := query_le u hok
    refine ⟨?_, ?_, ?_, ?_⟩ <;> omega
  obtain ⟨W1, hW1⟩ : ∃ W1, (w.alloc (.cells #[.slice q0 n0 c0, .slice q1 n1 c1, .int .i64 u.port, .slice q3 n3 c3, .slice q4 n4 c4, .slice q5 n5 c5, .bool u.hq, .bool u.hf] 33)).alloc (.cells #[.slice none 0 0, .slice none 0 0, .int .i64 0, .slice none 0 0, .slice none 0 0, .slice none 0 0, .bool false, .bool false] 33) = W1 := ⟨_, rfl⟩
  have hs1 : W1.heap.size = w.heap.size + 2 := by rw [← hW1]; simp
  have hB0 := (Below.refl _ w).alloc (Nat.le_refl _) (.cells #[.slice q0 n0 c0, .slice q1 n1 c1, .int .i64 u.port, .slice q3 n3 c3, .slice q4 n4 c4, .slice q5 n5 c5, .bool u.hq, .bool u.hf] 33)
  have hB1 : Below w.heap.size w W1 := by rw [← hW1]; exact hB0.alloc hB0.size _
  have hbox : Box w.heap.size #[.slice q0 n0 c0, .slice q1 n1 c1, .int .i64 u.port, .slice q3 n3 c3, .slice q4 n4 c4, .slice q5 n5 c5, .bool u.hq, .bool u.hf] W1 := by rw [← hW1]; exact (Box.new w _ _).on ((Below.refl _ _).alloc (Nat.le_refl _) _)
  have hz : UB (w.heap.size + 1) zeroU W1 := by
    have := World.alloc_heap_new (w.alloc (.cells #[.slice q0 n0 c0, .slice q1 n1 c1, .int .i64 u.port, .slice q3 n3 c3, .slice q4 n4 c4, .slice q5 n5 c5, .bool u.hq, .bool u.hf] 33)) (.cells zeroU 33)
    rw [World.size_alloc] at this
    rw [← hW1]; exact this
  have HW1 := Lib.hid hW1
  clear hW1 hB0
  go_enter Tryz.func109, Tryz.ntmps109
  go_wp2_with fail
  rw [HW1.out]
  refine pregion_any (Box w.heap.size #[.slice q0 n0 c0, .slice q1 n1 c1, .int .i64 u.port, .slice q3 n3 c3, .slice q4 n4 c4, .slice q5 n5 c5, .bool u.hq, .bool u.hf]) (by kernel_rfl) ?_
  have hS0 : Box w.heap.size #[.slice q0 n0 c0, .slice q1 n1 c1, .int .i64 u.port, .slice q3 n3 c3, .slice q4 n4 c4, .slice q5 n5 c5, .bool u.hq, .bool u.hf] W1.drew := hbox
  have hBd : Below w.heap.size w W1.drew := hB1.drew
  have hZ0 : UB (w.heap.size + 1) zeroU W1.drew := hz
  have hsd : W1.drew.heap.size = w.heap.size + 2 := hs1
  clear hbox HW1 hB1 hs1 hz
  generalize W1.drew = X0 at *
  refine wpAnyH_take (i := 0) (v := (.pointer (some ⟨w.heap.size, 0, none⟩))) rfl (by kernel_rfl) (by kernel_rfl) (by kernel_rfl) (fun _ _ _ h => h) (.inl ⟨by kernel_rfl, ?_⟩) hS0 ?_
  · rintro w h; go_simp
  refine plist #[true, false, false, false, false, false, false, false, false, false, false, false, false, false, false, false, false, false] (by kernel_rfl) ?_
  refine wpAnyH_take (i := 1) (v := (.slice q0 n0 c0)) rfl (by kernel_rfl) (by kernel_rfl) (by kernel_rfl) (fun _ _ _ h => h) (.inl ⟨by kernel_rfl, ?_⟩) hS0 ?_
  · rintro w h; have h' := h 0 _ rfl; go_simp
  refine plist #[true, true, false, false, false, false, false, false, false, false, false, false, false, false, false, false, false, false] (by kernel_rfl) ?_
  refine wpAnyH_take (i := 3) (v := (.pointer (some ⟨w.heap.size, 1, none⟩))) rfl (by kernel_rfl) (by kernel_rfl) (by kernel_rfl) (fun _ _ _ h => h) (.inl ⟨by kernel_rfl, ?_⟩) hS0 ?_
  · rintro w h; go_simp
  refine plist #[true, true, false, true, false, false, false, false, false, false, false, false, false, false, false, false, false, false] (by kernel_rfl) ?_
  refine wpAnyH_take (i := 4) (v := (.slice q1 n1 c1)) rfl (by kernel_rfl) (by kernel_rfl) (by kernel_rfl) (fun _ _ _ h => h) (.inl ⟨by kernel_rfl, ?_⟩) hS0 ?_
  · rintro w h; have h' := h 1 _ rfl; go_simp
  refine plist #[true, true, false, true, true, false, false, false, false, false, false, false, false, false, false, false, false, false] (by kernel_rfl) ?_
  refine wpAnyH_take (i := 6) (v := (.pointer (some ⟨w.heap.size, 2, none⟩))) rfl (by kernel_rfl) (by kernel_rfl) (by kernel_rfl) (fun _ _ _ h => h) (.inl ⟨by kernel_rfl, ?_⟩) hS0 ?_
  · rintro w h; go_simp
  refine plist #[true, true, false, true, true, false, true, false, false, false, false, false, false, false, false, false, false, false] (by kernel_rfl) ?_
  refine wpAnyH_take (i := 7) (v := (.int .i64 u.port)) rfl (by kernel_rfl) (by kernel_rfl) (by kernel_rfl) (fun _ _ _ h => h) (.inl ⟨by kernel_rfl, ?_⟩) hS0 ?_
  · rintro w h; have h' := h 2 _ rfl; go_simp
  refine plist #[true, true, false, true, true, false, true, true, false, false, false, false, false, false, false, false, false, false] (by kernel_rfl) ?_
  refine wpAnyH_take (i := 8) (v := (.pointer (some ⟨w.heap.size, 3, none⟩))) rfl (by kernel_rfl) (by kernel_rfl) (by kernel_rfl) (fun _ _ _ h => h) (.inl ⟨by kernel_rfl, ?_⟩) hS0 ?_
  · rintro w h; go_simp
  refine plist #[true, true, false, true, true, false, true, true, true, false, false, false, false, false, false, false, false, false] (by kernel_rfl) ?_
  refine wpAnyH_take (i := 9) (v := (.slice q3 n3 c3)) rfl (by kernel_rfl) (by kernel_rfl) (by kernel_rfl) (fun _ _ _ h => h) (.inl ⟨by kernel_rfl, ?_⟩) hS0 ?_
  · rintro w h; have h' := h 3 _ rfl; go_simp
  refine plist #[true, true, false, true, true, false, true, true, true, true, false, false, false, false, false, false, false, false] (by kernel_rfl) ?_
  refine wpAnyH_take (i := 11) (v := (.pointer (some ⟨w.heap.size, 4, none⟩))) rfl (by kernel_rfl) (by kernel_rfl) (by kernel_rfl) (fun _ _ _ h => h) (.inl ⟨by kernel_rfl, ?_⟩) hS0 ?_
  · rintro w h; go_simp
  refine plist #[true, true, false, true, true, false, true, true, true, true, false, true, false, false, false, false, false, false] (by kernel_rfl) ?_
  refine wpAnyH_take (i := 12) (v := (.slice q4 n4 c4)) rfl (by kernel_rfl) (by kernel_rfl) (by kernel_rfl) (fun _ _ _ h => h) (.inl ⟨by kernel_rfl, ?_⟩) hS0 ?_
  · rintro w h; have h' := h 4 _ rfl; go_simp
  refine plist #[true, true, false, true, true, false, true, true, true, true, false, true, true, false, false, false, false, false] (by kernel_rfl) ?_
  refine wpAnyH_take (i := 14) (v := (.pointer (some ⟨w.heap.size, 6, none⟩))) rfl (by kernel_rfl) (by kernel_rfl) (by kernel_rfl) (fun _ _ _ h => h) (.inl ⟨by kernel_rfl, ?_⟩) hS0 ?_
  · rintro w h; go_simp
  refine plist #[true, true, false, true, true, false, true, true, true, true, false, true, true, false, true, false, false, false] (by kernel_rfl) ?_
  refine wpAnyH_take (i := 15) (v := (.bool u.hq)) rfl (by kernel_rfl) (by kernel_rfl) (by kernel_rfl) (fun _ _ _ h => h) (.inl ⟨by kernel_rfl, ?_⟩) hS0 ?_
  · rintro w h; have h' := h 6 _ rfl; go_simp
  refine plist #[true, true, false, true, true, false, true, true, true, true, false, true, true, false, true, true, false, false] (by kernel_rfl) ?_
  refine pone 2 (by kernel_rfl) rfl fun K hK => ?_
  go_simp
  refine (Clone_any q0 n0 c0 u.scheme X0 (h0.on hBd).at.1 (Nat.le_trans hl0.1 (by omega)) (h0.on hBd).at.2.2.2.2).mono ?_
  rintro e X1 ⟨v0', rfl, hr, hb⟩
  have g0 := row_base hr (show w.heap.size + 2 ≤ X0.heap.size by omega)
  have hS1 := hS0.on hb
  have hZ1 := hZ0.on hb
  have hB1 := hBd.trans (hb.mono hBd.size)
  have hz1 : w.heap.size + 2 ≤ X1.heap.size := by have := hb.size; omega
  refine hK _ _ hS1 ?_
  clear hK K hr hb hS0 hZ0
  refine plist #[true, true, true, true, true, false, true, true, true, true, false, true, true, false, true, true, false, false] (by kernel_rfl) ?_
  refine pone 5 (by kernel_rfl) rfl fun K hK => ?_
  go_simp
  refine (Clone_any q1 n1 c1 u.host X1 (h1.on hB1).at.1 (Nat.le_trans hl0.2.1 (by omega)) (h1.on hB1).at.2.2.2.2).mono ?_
  rintro e X2 ⟨v1', rfl, hr, hb⟩
  have g1 := row_base hr (show w.heap.size + 2 ≤ X1.heap.size by omega)
  replace g0 := (Keep.of_below hb).row g0 (fun k hk => (g0.lt k hk).2)
  have hS2 := hS1.on hb
  have hZ2 := hZ1.on hb
  have hB2 := hB1.trans (hb.mono hB1.size)
  have hz2 : w.heap.size + 2 ≤ X2.heap.size := by have := hb.size; omega
  refine hK _ _ hS2 ?_
  clear hK K hr hb hS1 hZ1
  refine plist #[true, true, true, true, true, true, true, true, true, true, false, true, true, false, true, true, false, false] (by kernel_rfl) ?_
  refine pone 10 (by kernel_rfl) rfl fun K hK => ?_
  go_simp
  refine (Clone_any q3 n3 c3 u.path X2 (h3.on hB2).at.1 (Nat.le_trans hl0.2.2.1 (by omega)) (h3.on hB2).at.2.2.2.2).mono ?_
  rintro e X3 ⟨v3', rfl, hr, hb⟩
  have g3 := row_base hr (show w.heap.size + 2 ≤ X2.heap.size by omega)
  replace g0 := (Keep.of_below hb).row g0 (fun k hk => (g0.lt k hk).2)
  replace g1 := (Keep.of_below hb).row g1 (fun k hk => (g1.lt k hk).2)
  have hS3 := hS2.on hb
  have hZ3 := hZ2.on hb
  have hB3 := hB2.trans (hb.mono hB2.size)
  have hz3 : w.heap.size + 2 ≤ X3.heap.size := by have := hb.size; omega
  refine hK _ _ hS3 ?_
  clear hK K hr hb hS2 hZ2
  refine plist #[true, true, true, true, true, true, true, true, true, true, true, true, true, false, true, true, false, false] (by kernel_rfl) ?_
  refine pone 13 (by kernel_rfl) rfl fun K hK => ?_
  go_simp
  refine (Clone_any q4 n4 c4 u.query X3 (h4.on hB3).at.1 (Nat.le_trans hl0.2.2.2 (by omega)) (h4.on hB3).at.2.2.2.2).mono ?_
  rintro e X4 ⟨v4', rfl, hr, hb⟩
  have g4 := row_base hr (show w.heap.size + 2 ≤ X3.heap.size by omega)
  replace g0 := (Keep.of_below hb).row g0 (fun k hk => (g0.lt k hk).2)
  replace g1 := (Keep.of_below hb).row g1 (fun k hk => (g1.lt k hk).2)
  replace g3 := (Keep.of_below hb).row g3 (fun k hk => (g3.lt k hk).2)
  have hS4 := hS3.on hb
  have hZ4 := hZ3.on hb
  have hB4 := hB3.trans (hb.mono hB3.size)
  have hz4 : w.heap.size + 2 ≤ X4.heap.size := by have := hb.size; omega
  refine hK _ _ hS4 ?_
  clear hK K hr hb hS3 hZ3
  have r0 := g0
  obtain ⟨p0, m0, rfl, _⟩ := row_open g0
  have r1 := g1
  obtain ⟨p1, m1, rfl, _⟩ := row_open g1
  have r3 := g3
  obtain ⟨p3, m3, rfl, _⟩ := row_open g3
  have r4 := g4
  obtain ⟨p4, m4, rfl, _⟩ := row_open g4
  refine plist #[true, true, true, true, true, true, true, true, true, true, true, true, true, true, true, true, false, false] (by kernel_rfl) ?_
  refine wpAnyH_take (i := 16) (v := (.agg #[.slice p0 n0 m0, .slice p1 n1 m1, .int .i64 u.port, .slice p3 n3 m3, .slice p4 n4 m4, .slice none 0 0, .bool u.hq, .bool false])) rfl (by kernel_rfl) (by kernel_rfl) (by kernel_rfl) (fun _ _ _ h => h) (.inl ⟨by kernel_rfl, ?_⟩) hS4 ?_
  · rintro w h; go_simp
  refine plist #[true, true, true, true, true, true, true, true, true, true, true, true, true, true, true, true, true, false] (by kernel_rfl) ?_
  have zc := hZ4.box
  have zc0 := zc 0 _ rfl
  have zf0 := hZ4.frozen 0
  have zc1 := zc 1 _ rfl
  have zf1 := hZ4.frozen 1
  have zc2 := zc 2 _ rfl
  have zf2 := hZ4.frozen 2
  have zc3 := zc 3 _ rfl
  have zf3 := hZ4.frozen 3
  have zc4 := zc 4 _ rfl
  have zf4 := hZ4.frozen 4
  have zc5 := zc 5 _ rfl
  have zf5 := hZ4.frozen 5
  have zc6 := zc 6 _ rfl
  have zf6 := hZ4.frozen 6
  have zc7 := zc 7 _ rfl
  have zf7 := hZ4.frozen 7
  refine pone 17 (by kernel_rfl) rfl fun K hK => ?_
  go_simp
  obtain ⟨Y, hY, hU, hkY, hbY⟩ := UB.put (show UB (w.heap.size + 1) #[.slice none 0 0, .slice none 0 0, .int .i64 0, .slice none 0 0, .slice none 0 0, .slice none 0 0, .bool false, .bool false] X4 from hZ4) (.slice p0 n0 m0) (.slice p1 n1 m1) (.int .i64 u.port) (.slice p3 n3 m3) (.slice p4 n4 m4) (.slice none 0 0) (.bool u.hq) (.bool false)
  rw [hY]
  have hSY : Box w.heap.size #[.slice q0 n0 c0, .slice q1 n1 c1, .int .i64 u.port, .slice q3 n3 c3, .slice q4 n4 c4, .slice q5 n5 c5, .bool u.hq, .bool u.hf] Y := fun i x hx => (World.cell?_of_block ((hkY (fun b => b ≠ w.heap.size + 1) (fun h => h rfl)).block _ (World.block_lt_of_cell? _ _ (hS4 i x hx)) (by simp))).trans (hS4 i x hx)
  refine hK _ _ hSY ?_
  clear hK K hY zc zc0 zf0 zc1 zf1 zc2 zf2 zc3 zf3 zc4 zf4 zc5 zf5 zc6 zf6 zc7 zf7
  refine pdone (by kernel_rfl) ?_ _
  have uc := hU.box
  have uc0 := uc 0 _ rfl
  have uc1 := uc 1 _ rfl
  have uc2 := uc 2 _ rfl
  have uc3 := uc 3 _ rfl
  have uc4 := uc 4 _ rfl
  have uc5 := uc 5 _ rfl
  have uc6 := uc 6 _ rfl
  have uc7 := uc 7 _ rfl
  clear uc
  go_wp2
  (try simp only [Exit.inBlock, Exit.then])
  refine bodyPost_ret (ret_url rfl _ _ (w.heap.size + 1) _ rfl hU rfl) rfl ?_
  have hY2 := hB4.trans (hbY _ (Nat.le_succ w.heap.size))
  have kr := fun (f : Nat) (hf : w.heap.size + 2 ≤ f) => show f ≠ w.heap.size + 1 by omega
  have t0 := By.row ((hkY (fun b => b ≠ w.heap.size + 1) (fun h => h rfl)).row r0 (fun k hk => kr _ (r0.lt k hk).1))
  have t1 := By.row ((hkY (fun b => b ≠ w.heap.size + 1) (fun h => h rfl)).row r1 (fun k hk => kr _ (r1.lt k hk).1))
  have t3 := By.row ((hkY (fun b => b ≠ w.heap.size + 1) (fun h => h rfl)).row r3 (fun k hk => kr _ (r3.lt k hk).1))
  have t4 := By.row ((hkY (fun b => b ≠ w.heap.size + 1) (fun h => h rfl)).row r4 (fun k hk => kr _ (r4.lt k hk).1))
  exact ⟨_, rfl, ⟨p0, n0, m0, p1, n1, m1, p3, n3, m3, p4, n4, m4, none, 0, 0, rfl, t0, t1, t3, t4, by_nil _⟩, hY2⟩
end Go.Proofs.YtniehbjoogaccaaGreatDoor.Url
namespace Go.Proofs.YtniehbjoogaccaaGreatDoor.Host
open Go.RowKit Go.Shelf
attribute [local go_sem] Oper.semAt_some
def WinE (w : World) (v : Value) (d : List UInt8) (pre : List (List UInt8)) (W : World) : Prop :=
  Boxed W w.heap.size 29 v ∧ Boxed W (w.heap.size + 1) 4 (.bool false) ∧ pre.contains d = false ∧ Below w.heap.size w W
def WinX (w : World) (d : List UInt8) (xs : List (List UInt8)) (_ : List (List UInt8)) (W : World) : Prop :=
  Boxed W (w.heap.size + 1) 4 (.bool true) ∧ xs.contains d = true ∧ Below w.heap.size w W
set_option maxRecDepth 100000 in
set_option maxHeartbeats 4000000 in
theorem Within_any (q qd : Option Addr) (n c m cd : Nat) (l d : List UInt8) (w : World) (hl : l.length = n) (hd : d.length = m) (hn : n ≤ 1099511627775) (h : Lib.BytesIn w q n (Lib.numsL l)) (h' : Lib.BytesIn w qd m (Lib.numsL d)) :
    Calls Tryz.prog 150 #[.slice q n c, .slice qd m cd] w fun e w' => e = .returned (.bool (withinB l d)) ∧ Below w.heap.size w w' := by
  refine (callsIn_wide (n := 1)).1 ?_
  refine callsIn_of_wp_marks Tryz.func150 rfl trivial ?_ rfl
  simp only [Tryz.ntmps150, List.size_toArray, List.length_cons, List.length_nil, Nat.reduceAdd, Nat.reduceSub, Array.replicate_succ, Array.replicate_zero, List.push_toArray, List.append_toArray, List.nil_append, List.cons_append]
  obtain ⟨W0, hW0⟩ : ∃ W0, (w.alloc (.cells #[.slice qd m cd] 29)).alloc (.cells #[.bool false] 4) = W0 := ⟨_, rfl⟩
  have b0 : Boxed W0 w.heap.size 29 (.slice qd m cd) := hW0 ▸ (Boxed.new w _ _).alloc _
  have b1 : Boxed W0 (w.heap.size + 1) 4 (.bool false) := by
    have := Boxed.new (w.alloc (.cells #[.slice qd m cd] 29)) 4 (.bool false)
    rw [World.size_alloc] at this
    exact hW0 ▸ this
  have hB0 : Below w.heap.size w W0 := hW0 ▸ ((Below.refl _ w).alloc (Nat.le_refl _) _).alloc (by simp) _
  have hs0 : W0.heap.size = w.heap.size + 2 := by rw [← hW0]; simp
  have hb0 := bytes_keep h (Keep.of_below hB0) (fun a h1 h2 => bytes_lt h a h1 h2)
  have con := Up_any q n c l W0 hl hn hb0
  have HW0 := Lib.hid hW0
  have hqd := bytes_lt h'
  have HWI := Lib.hid (show withinB l d = (upL l).contains d from rfl)
  clear h hW0 hb0 hl
  generalize upL l = xs at *
  generalize withinB l d = wb at *
  gi_wp2_with fail
  rw [HW0.out]
  refine ⟨trivial, (callsIn_wide.2 con).mono ?_⟩
  rintro e W1 ⟨gf, lb, RB, rfl, eg, hit, hRl, hnf, hbel⟩
  rw [hs0] at hRl
  replace b0 := (Keep.of_below hbel).boxed b0 (by omega)
  replace b1 := (Keep.of_below hbel).boxed b1 (by omega)
  have hB1 := hB0.trans (hbel.mono hB0.size)
  have hs1 := hbel.size
  rw [hs0] at hs1
  clear con hbel HW0 hB0 hs0
  gi_wp2
  refine rf_law (gf := gf) (lb := lb) rfl eg
    hit (Keep.refl _ _) (fun b hb => (hRl b hb).2) (fun x args G W h => by obtain ⟨v, rfl, _⟩ := h; rfl)
    (EvI W1 (WinE w (.slice qd m cd) d)) (EvX W1 (WinX w d xs)) (EvI_abide ?e1) (EvX_abide ?e2)
    ⟨(fun _ h => h.elim), Keep.refl _ _, b0, b1, rfl, hB1⟩ ?round ?done ?stop
  case e1 =>
    rintro pre A B hk ⟨h1, h2, h3, h4⟩
    exact ⟨hk.boxed h1 (by omega), hk.boxed h2 (by omega), h3, h4.trans ((hk.mono fun b _ hb => by omega).below h4.size)⟩
  case e2 =>
    rintro pre A B hk ⟨h1, h3, h4⟩
    exact ⟨hk.boxed h1 (by omega), h3, h4.trans ((hk.mono fun b _ hb => by omega).below h4.size)⟩
  case round =>
    rintro ll pre x rest Pv G args Wr hll hxs ⟨hge, hK1, hE1, hE2, hE3, hE4⟩ hPl hGl hPb hGP ⟨p, rfl, hp, rfl⟩
    have hxm : x ∈ xs := by rw [hxs]; simp
    obtain ⟨qx, cx, rfl, _, hnc, hcm, hbs, hblk⟩ := row_open hp
    clear hxs
    gi_wp2
    refine ⟨Keep.refl _ _, fun W2 hk2 hs2 r hr => ?_⟩
    have k2 : Keep (fun b => b < W1.heap.size) Wr W2 := hk2.mono fun b _ hb h => by omega
    have f1 := k2.boxed hE1 (by omega)
    have f2 := k2.boxed hE2 (by omega)
    have gx : Keep (fun b => (Value.slice qx x.length cx).ownBlock = some b) Wr W2 := hk2.mono fun b _ hb h => hGl (h ▸ hb)
    have hbs2 : Lib.BytesIn W2 qx x.length (Lib.numsL x) := bytes_keep hbs gx (fun a ha _ => (hblk a ha).2.2)
    have hs2' := hE4.size
    have hW2 := hE4.trans ((k2.mono fun b _ h => by omega).below hE4.size)
    have hbd2 := bytes_keep h' (Keep.of_below hW2) (fun a h1 h2 => hqd a h1 h2)
    have con2 := Tryz.bytes_Equal_all qx qd x.length cx m cd (Lib.numsL x) (Lib.numsL d) W2 (by rw [Lib.numsL_length]) (by rw [Lib.numsL_length, hd]) hbs2 hbd2
    rw [bytes_eq] at con2
    have c1 := f1.cell
    have c2 := f2.cell
    have z2 := f2.frozen
    have hK2 := hK1.trans (hk2.mono fun _ _ h => h.elim)
    clear hbs hp hbs2 hblk hk2 gx hbd2
    by_cases hxd : x = d
    · have HB := Lib.hid (show xs.contains d = true by rw [List.contains_iff_mem, ← hxd]; exact hxm)
      rw [decide_eq_true hxd] at con2
      clear hxd hxm
      gi_wp2_with fail
      refine ⟨trivial, rfl, (CallsIn.inRound ll (callsIn_wide.2 con2)).mono ?_⟩
      rintro e w' ⟨rfl, hw⟩
      subst hw
      clear con2
      gi_wp2
      refine ⟨Keep.setCell _ _ _ (fun h => ?_), rfl, fun b hb => hge b hb.1, hK2.trans (Keep.setCell _ _ _ (fun h => h)), f2.set _, HB.out, hW2.setCell (p := ⟨w.heap.size + 1, 0, none⟩) (Nat.le_succ _) _⟩
      rcases h with h | h
      · have := (hRl _ h).1; simp only at this; omega
      · have := hge _ h.1; simp only at this; omega
    · have HB := Lib.hid (show (pre ++ [x]).contains d = false by
        have hxd' : ¬ d = x := fun h => hxd h.symm
        rw [Bool.eq_false_iff] at hE3 ⊢
        intro hc
        rw [List.contains_iff_mem, List.mem_append] at hc
        rcases hc with hc | hc
        · exact hE3 (List.contains_iff_mem.2 hc)
        · exact hxd' (by simpa using hc))
      rw [decide_eq_false hxd] at con2
      clear hxd hxm
      gi_wp2_with fail
      refine ⟨trivial, rfl, (CallsIn.inRound ll (callsIn_wide.2 con2)).mono ?_⟩
      rintro e w' ⟨rfl, hw⟩
      subst hw
      clear con2
      gi_wp2
      exact ⟨Keep.refl _ _, fun b hb => hge b hb.1, hK2, f1, f2, HB.out, hW2⟩
  case done =>
    rintro D Pv Wd hD hPD hPl ⟨hge, hK1, hE1, hE2, hE3, hE4⟩ hK
    have c2 := hE2.cell
    have z2 := hE2.frozen
    gi_wp2
    have hKd : (Wd.setCell ⟨w.heap.size + 1, 0, none⟩ (.bool false)).heap[D]? = some (.deferred (some [])) := (Keep.setCell (S := fun b => b = D) Wd ⟨w.heap.size + 1, 0, none⟩ _ (show ¬ w.heap.size + 1 = D by omega)).heap rfl hK
    have kp : ∀ (S : Nat → Prop) (W : World), ¬ S D → Keep S W (W.putObj D (.deferred none)) := fun S W h => Keep.putObj _ _ _ h
    refine ⟨by simp, .inl ⟨_, _, rfl, run_takeDeferred hKd, ?_⟩⟩
    refine ⟨_, results_bool rfl _ _ (w.heap.size + 1) _ rfl ((kp (fun b => b = w.heap.size + 1) _ (by omega)).boxed (hE2.set _) rfl).cell, ?_, ?_⟩
    · rw [HWI.out, hE3]
    · have h5 := hE4.setCell (p := ⟨w.heap.size + 1, 0, none⟩) (Nat.le_succ _) (.bool false)
      exact h5.trans ((kp (fun b => b < w.heap.size) _ (by omega)).below h5.size)
  case stop =>
    rintro D cc pre rest Pv Wd hD hPD hPl hxs ⟨rfl, hge, hK1, hE1, hE3, hE4⟩ hK
    have kp : ∀ (S : Nat → Prop) (W : World), ¬ S D → Keep S W (W.putObj D (.deferred none)) := fun S W h => Keep.putObj _ _ _ h
    clear hxs
    gi_wp2
    refine ⟨by simp, .inl ⟨_, _, rfl, run_takeDeferred hK, ?_⟩⟩
    refine ⟨_, results_bool rfl _ _ (w.heap.size + 1) _ rfl ((kp (fun b => b = w.heap.size + 1) _ (by omega)).boxed hE1 rfl).cell, ?_, ?_⟩
    · rw [HWI.out, hE3]
    · exact hE4.trans ((kp (fun b => b < w.heap.size) _ (by omega)).below hE4.size)
end Go.Proofs.YtniehbjoogaccaaGreatDoor.Host
namespace Go.Proofs.YtniehbjoogaccaaGreatDoor.Url
open Go.RowKit Go.Shelf
def RowsOf (W : World) (base : Nat) (v : Value) (vs : List Value) (ks : List (List UInt8)) : Prop :=
  W.ownsRow base 29 1 v ks.length vs ∧ ∀ (i : Nat) (x : Value) (k : List UInt8), vs[i]? = some x → ks[i]? = some k → W.ownsRow base 5 1 x k.length (byV k)
def KB (v : Value) (vs : List Value) (b : Nat) : Prop := v.ownBlock = some b ∨ ∃ x ∈ vs, x.ownBlock = some b
theorem RowsOf.len {W : World} {base : Nat} {v : Value} {vs : List Value} {ks : List (List UInt8)} (h : RowsOf W base v vs ks) : vs.length = ks.length := by
  have := h.1.1; omega
theorem RowsOf.nil (W : World) (base : Nat) : RowsOf W base (.slice none 0 0) [] [] := ⟨World.ownsRow_nil _ _ _ _, fun i x k h => by simp at h⟩
theorem RowsOf.lt {W : World} {base : Nat} {v : Value} {vs : List Value} {ks : List (List UInt8)} (h : RowsOf W base v vs ks) : ∀ b, KB v vs b → base ≤ b ∧ b < W.heap.size := by
  rintro b (hb | ⟨x, hx, hb⟩)
  · exact h.1.lt b hb
  · obtain ⟨i, hi, rfl⟩ := List.mem_iff_getElem.1 hx
    have hk : i < ks.length := by rw [← h.len]; exact hi
    exact (h.2 i _ _ (List.getElem?_eq_getElem hi) (List.getElem?_eq_getElem hk)).lt b hb
theorem RowsOf.keep {S : Nat → Prop} {W W' : World} {base : Nat} {v : Value} {vs : List Value} {ks : List (List UInt8)} (h : RowsOf W base v vs ks) (hk : Keep S W W') (hS : ∀ b, KB v vs b → S b) : RowsOf W' base v vs ks :=
  ⟨hk.row h.1 fun b hb => hS b (.inl hb), fun i x k hi hj => hk.row (h.2 i x k hi hj) fun b hb => hS b (.inr ⟨x, List.mem_of_getElem? hi, hb⟩)⟩
theorem RowsOf.not_box {W : World} {base B : Nat} {t : TypeId} {u v : Value} {vs : List Value} {ks : List (List UInt8)} (h : RowsOf W base v vs ks) (hB : Boxed W B t u) (h1 : t ≠ 29) (h2 : t ≠ 5) : ¬ KB v vs B := by
  rintro (hb | ⟨x, hx, hb⟩)
  · exact hB.not_row h1 h.1 hb.symm
  · obtain ⟨i, hi, rfl⟩ := List.mem_iff_getElem.1 hx
    have hk : i < ks.length := by rw [← h.len]; exact hi
    exact hB.not_row h2 (h.2 i _ _ (List.getElem?_eq_getElem hi) (List.getElem?_eq_getElem hk)) hb.symm
theorem byte_row_ne {W : World} {base base' g m n : Nat} {v x : Value} {xs ys : List Value} (h : W.ownsRow base 29 1 v n xs) (h' : W.ownsRow base' 5 1 x m ys) (hb : v.ownBlock = some g) : x.ownBlock ≠ some g := fun he => by
  rcases h.2 with ⟨rfl, _⟩ | ⟨g1, cap1, cur1, rfl, _, hg1, _⟩
  · simp [Value.ownBlock] at hb
  · rcases h'.2 with ⟨rfl, _⟩ | ⟨g2, cap2, cur2, rfl, _, hg2, _⟩
    · simp [Value.ownBlock] at he
    · obtain rfl : g1 = g := by simpa [Value.ownBlock] using hb
      obtain rfl : g2 = g1 := by simpa [Value.ownBlock] using he
      rw [hg1] at hg2
      injection hg2 with hg2
      injection hg2 with _ hg2
      exact absurd hg2 (by decide)
theorem RowsOf.dropLast {W : World} {base n c : Nat} {q : Option Addr} {vs : List Value} {ks : List (List UInt8)} (h : RowsOf W base (.slice q n c) vs ks) : n = ks.length ∧ RowsOf W base (.slice q (n - 1) c) vs.dropLast ks.dropLast := by
  have hl := h.len
  have hn : n = ks.length := by
    rcases h.1.2 with ⟨he, hz⟩ | ⟨g, cap, cur, he, _⟩
    · cases he; omega
    · cases he; rfl
  refine ⟨hn, ?_, fun i x k hi hj => ?_⟩
  · refine ⟨by rw [List.length_dropLast, List.length_dropLast]; omega, ?_⟩
    rcases h.1.2 with ⟨he, hz⟩ | ⟨g, cap, cur, he, hb, hg, h1, h2, h3, h4⟩
    · cases he
      exact .inl ⟨by simp, by rw [List.length_dropLast]; omega⟩
    · cases he
      refine .inr ⟨g, c, cur, by rw [List.length_dropLast], hb, hg, by rw [List.length_dropLast]; omega, h2, h3, ?_⟩
      rw [List.length_dropLast, ← h4, List.dropLast_eq_take]
      simp only [Nat.mul_one, List.take_take, List.length_take]
      have hm : ks.length ≤ cur.size := by omega
      have hcs : cur.toList.length = cur.size := rfl
      congr 1; omega
  · rw [List.getElem?_dropLast] at hi hj
    split at hi
    · split at hj
      · exact h.2 i x k hi hj
      · cases hj
    · cases hi
theorem join_lib (c : UInt8) : ∀ R : List (List UInt8), Lib.join R [c] = Ref.joinL c R
  | [] => rfl
  | [p] => Lib.join_one p [c]
  | p :: q :: r => by
    have ih := join_lib c (q :: r)
    rw [Lib.join_cons] at ih ⊢
    show p ++ Lib.joinTail [c] (q :: r) = p ++ c :: Ref.joinL c (q :: r)
    rw [← ih]
    simp [Lib.joinTail]
theorem lens_weight : ∀ R : List (List UInt8), Lib.lens R + R.length = weightL R
  | [] => rfl
  | p :: r => by
    have ih := lens_weight r
    simp only [Lib.lens, List.map_cons, List.sum_cons, List.length_cons, weightL] at ih ⊢
    omega
theorem By.holds {w : World} {v : Value} {l : List UInt8} (h : By w v l) : Lib.HoldsBytes w v l := by
  obtain ⟨q, c, rfl, h1, h2, h3, h4⟩ := h
  refine ⟨q, c, rfl, fun hq => List.eq_nil_of_length_eq_zero (by have := h3 hq; omega), fun a ha i x hx => ?_⟩
  subst ha
  have hi : i < l.length := (List.getElem?_eq_some_iff.1 hx).1
  obtain ⟨b, o, he, hc⟩ := h4.at (by omega)
  cases he
  rw [Go.WideShapes.add_plain, hc i hi, numsL_getD _ _ hi, List.getD, hx]; rfl
theorem By.fresh {B : Nat} {w : World} {v : Value} {l : List UInt8} (h : Lib.FreshBytes B w v l) : By w v l := by
  obtain ⟨g, cap, zs, rfl, _, h1, h2, h3, h4, h5, h6, _⟩ := h
  refine ⟨_, cap, rfl, h1, h2, (fun h => by cases h), fun _ => ⟨g, 0, rfl, fun i hi => ?_⟩⟩
  rw [Nat.zero_add, h6 i (by omega), numsL_getD _ _ hi, ← h5]
  have hz : i < zs.length := by omega
  have hr := h4 _ (List.getElem_mem hz)
  have hi' : i < (Lib.bytesOf (zs.take l.length)).length := by rw [Lib.bytesOf_length, List.length_take]; omega
  rw [List.getD, List.getElem?_eq_getElem hz, List.getD, List.getElem?_eq_getElem hi']
  simp only [Option.getD_some, Lib.bytesOf, List.getElem_map, List.getElem_take, UInt8.toNat_ofNat']
  congr 2; omega
set_option maxHeartbeats 1000000 in
theorem Join_any (base c n : Nat) (q : Option Addr) (vs : List Value) (ks : List (List UInt8)) (sv : Value) (w : World) (h : RowsOf w base (.slice q n c) vs ks) (hs : By w sv [47]) (hw : weightL ks ≤ 1099511627776) :
    Calls Tryz.prog 135 #[.slice q n c, sv] w fun e w' => ∃ v, e = .returned v ∧ By w' v (Ref.joinL 47 ks) ∧ Below w.heap.size w w' := by
  have hlen := h.len
  have hwt := lens_weight ks
  have key : ks ≠ [] → ∃ g, q = some ⟨g, 0, none⟩ ∧ n = ks.length ∧ n ≤ c ∧ ∀ (i : Nat) x, vs[i]? = some x → w.cell? ⟨g, i, none⟩ = some x := by
    intro hne
    have hpos : 0 < ks.length := List.length_pos_iff.2 hne
    rcases h.1.2 with ⟨he, hz⟩ | ⟨g, cap, cur, he, hb, hg, h1, h2, h3, h4⟩
    · omega
    · cases he
      refine ⟨g, rfl, rfl, h1, fun i x hx => ?_⟩
      have hi : i < vs.length := (List.getElem?_eq_some_iff.1 hx).1
      have : (cur.toList.take (ks.length * 1))[i]? = some x := by rw [h4]; exact hx
      rw [List.getElem?_take, if_pos (by omega)] at this
      simp only [World.cell?, hg]
      simpa using this
  rcases Nat.lt_or_ge 1 ks.length with h2 | h2
  · obtain ⟨g, rfl, hn, hnc, hc⟩ := key (by intro e; rw [e] at h2; simp at h2)
    have hP : Lib.PartsAt w ⟨g, 0, none⟩ vs ks := ⟨hlen, fun i x hx => by rw [Go.WideShapes.add_plain, Nat.zero_add]; exact hc i x hx, fun i x k hx hk => (By.row (h.2 i x k hx hk)).holds⟩
    refine (Tryz.bytes_Join_many g 0 n c vs ks sv [47] w hn.symm (by omega) hP hnc hs.holds (by omega) (by simp; omega)).mono ?_
    rintro e w' ⟨v, he, hf, hb⟩
    rw [join_lib] at hf
    exact ⟨v, he, By.fresh hf, hb⟩
  · match ks, h2 with
    | [], _ =>
      have hn : n = 0 := by
        rcases h.1.2 with ⟨he, _⟩ | ⟨g, cap, cur, he, _⟩
        · cases he; rfl
        · cases he; rfl
      subst hn
      refine (Tryz.bytes_Join_none q c sv w).mono ?_
      rintro e w' ⟨rfl, rfl⟩
      exact ⟨_, rfl, By.of rfl (Nat.le_refl _) (Nat.zero_le _) (fun _ => rfl) (Lib.BytesIn.nil _ _ _), (Below.refl _ _).alloc (Nat.le_refl _) _⟩
    | [k], _ =>
      obtain ⟨g, rfl, hn, hnc, hc⟩ := key (by simp)
      obtain rfl : n = 1 := hn
      obtain ⟨x, rfl⟩ : ∃ x, vs = [x] := by
        match vs, hlen with
        | [x], _ => exact ⟨x, rfl⟩
      have hb := By.row (h.2 0 x k rfl rfl)
      have hcell := hc 0 x rfl
      obtain ⟨p0, c0, rfl, h5, h6, h7, h8⟩ := hb.holds |> fun _ => hb
      rcases Nat.eq_zero_or_pos k.length with hk | hk
      · have hk' : k = [] := List.eq_nil_of_length_eq_zero hk
        subst hk'
        refine (Tryz.bytes_Join_one_empty g 0 c p0 c0 sv w hcell).mono ?_
        rintro e w' ⟨rfl, rfl⟩
        exact ⟨_, rfl, by_nil _, Below.refl _ _⟩
      · obtain ⟨b, o, rfl, hcc⟩ := h8.at hk
        refine (Tryz.bytes_Join_one g 0 c ⟨b, o, none⟩ c0 k sv w hcell (fun i y hy => by
          have hi : i < k.length := (List.getElem?_eq_some_iff.1 hy).1
          rw [Go.WideShapes.add_plain, hcc i hi, numsL_getD _ _ hi, List.getD, hy]; rfl) hk (by simp [weightL] at hw; omega)).mono ?_
        rintro e w' ⟨v, he, hf, hb'⟩
        exact ⟨v, he, By.fresh hf, hb'⟩
def tailsX (pre : List (Nat × List UInt8)) : List (List UInt8) := (pre.map Prod.snd).tail
theorem tails_snoc (pre : List (Nat × List UInt8)) (x : Nat × List UInt8) (h : pre ≠ []) : tailsX (pre ++ [x]) = tailsX pre ++ [x.2] := by
  unfold tailsX
  rw [List.map_append, List.map_singleton, List.tail_append_of_ne_nil (by simpa using h)]
theorem tails_one (x : Nat × List UInt8) : tailsX ([] ++ [x]) = [] := rfl
theorem forms_snoc : ∀ (l : List (List UInt8)) (p : List UInt8) (cs : List (List UInt8)) (c : List UInt8), formsL l = some cs → formL 1 p = some c → formsL (l ++ [p]) = some (cs ++ [c])
  | [], p, cs, c, h, hp => by
    rw [formsL] at h; cases h
    rw [List.nil_append, formsL, hp]; rfl
  | a :: r, p, cs, c, h, hp => by
    rw [formsL] at h
    obtain ⟨d, hd, h⟩ := Option.bind_eq_some_iff.1 h
    obtain ⟨ds, hds, rfl⟩ := Option.map_eq_some_iff.1 h
    rw [List.cons_append, formsL, hd, Option.bind_some, forms_snoc r p ds c hds hp]; rfl
theorem forms_bad : ∀ (l r : List (List UInt8)) (p : List UInt8), formL 1 p = none → formsL (l ++ p :: r) = none
  | [], r, p, hp => by rw [List.nil_append, formsL, hp]; rfl
  | a :: t, r, p, hp => by
    rw [List.cons_append, formsL, forms_bad t r p hp]
    cases formL 1 a <;> rfl
theorem stack_snoc (cs : List (List UInt8)) (c : List UInt8) : stackL [] (cs ++ [c]) = if c = [46] then stackL [] cs else if c = [46, 46] then (stackL [] cs).dropLast else stackL [] cs ++ [c] := by
  rw [stack_app, stackL, stackL]
theorem last_snoc (cs : List (List UInt8)) (c : List UInt8) : (cs ++ [c]).getLastD [] = c := by simp
theorem path_split (l : List UInt8) (h : l = [] ∨ ∃ r, l = 47 :: r) : pathL l = (formsL (Ref.splitL 47 l).tail).map fun cs => 47 :: Ref.joinL 47 (dotsL cs) := by
  rcases h with rfl | ⟨r, rfl⟩
  · rfl
  · rw [Ref.split_is]; rfl
theorem tails_split (l : List UInt8) : tailsX (splitX 47 l) = (Ref.splitL 47 l).tail := by
  unfold tailsX; rw [Host.splitX_snd]
end Go.Proofs.YtniehbjoogaccaaGreatDoor.Url
namespace Go.Proofs.YtniehbjoogaccaaGreatDoor.Url
open Go.RowKit Go.Shelf
attribute [local go_sem] Oper.semAt_some
theorem info_sl : (Tryz.prog.info? 29).map (fun i => (i.zero, i.size, i.bytes)) = some (some (.slice none 0 0), 1, 24) := by kernel_rfl
theorem results_path {fn : Func} {p r : Tmp} (h : fn.results = #[.cell p 29, .cell r 34]) (tmps : Array Value) (w : World) (B C : Nat) (v u : Value) (hp : tmps.getD p undef = .pointer (some ⟨B, 0, none⟩)) (hr : tmps.getD r undef = .pointer (some ⟨C, 0, none⟩)) (hb : w.cell? ⟨B, 0, none⟩ = some v) (hc : w.cell? ⟨C, 0, none⟩ = some u) :
    (results fn tmps).run Tryz.prog w = .ok (.tuple #[v, u]) w := by
  have hp' : tmps[p]?.getD undef = .pointer (some ⟨B, 0, none⟩) := by simpa using hp
  have hr' : tmps[r]?.getD undef = .pointer (some ⟨C, 0, none⟩) := by simpa using hr
  have ha : ∀ w', (isAgg 29).run Tryz.prog w' = .ok false w' := Tryz.isAgg29
  have hd : ∀ w', (isAgg 34).run Tryz.prog w' = .ok false w' := Tryz.isAgg34
  have hl : (load ⟨B, 0, none⟩).run Tryz.prog w = .ok v w := by simp [go_sem, hb]
  have hm : (load ⟨C, 0, none⟩).run Tryz.prog w = .ok u w := by simp [go_sem, hc]
  simp [results, h, hp', hr', asAddr, loadVar, ha, hd, hl, hm, Result.andThen]
theorem own_len (q : Option Addr) (n m c d : Nat) : (Value.slice q n c).ownBlock = (Value.slice q m d).ownBlock := by cases q <;> rfl
theorem rows_slice {W : World} {base : Nat} {v : Value} {vs : List Value} {ks : List (List UInt8)} (h : RowsOf W base v vs ks) : ∃ q c, v = .slice q ks.length c ∧ ks.length ≤ c ∧ c ≤ maxLen := by
  rcases h.1.2 with ⟨rfl, hz⟩ | ⟨g, cap, cur, rfl, _, _, h1, h2, _⟩
  · exact ⟨none, 0, by rw [hz], by omega, Nat.zero_le _⟩
  · exact ⟨_, cap, rfl, h1, h2⟩
theorem conv_bytes {W : World} {q : Option Addr} {n c : Nat} {l : List UInt8} (h : Lib.BytesIn W q n (Lib.numsL l)) (hl : l.length = n) : (convert 29 9 (.slice q n c)).run Tryz.prog W = .ok (.string ⟨l.toArray⟩) W := by
  have h := h.convert (P := Tryz.prog) (by rw [Lib.numsL_length, hl]) c 29 5 9 Tryz.underlying29 Tryz.underlying5 Tryz.underlying9
  rwa [strOfNums_numsL] at h
theorem stack_len : ∀ (ps st : List (List UInt8)), (stackL st ps).length ≤ st.length + ps.length
  | [], st => by simp [stackL]
  | p :: r, st => by
    rw [stackL]
    have ih := stack_len r (if p = [46] then st else if p = [46, 46] then st.dropLast else st ++ [p])
    have hs : (if p = [46] then st else if p = [46, 46] then st.dropLast else st ++ [p]).length ≤ st.length + 1 := by
      split
      · omega
      · split
        · rw [List.length_dropLast]; omega
        · simp
    rw [List.length_cons]; omega
theorem wpListIn_append_by {F : Fence} {nF : Nat} {ops : Array Oper} {rest : List Oper} {o : Oper} {a : Act} {w : World} {Q : Exit → Act → World → Prop} (hgd : o.guard = none) (s x : Operand)
    (ho : o.op = .call { callee := .builtin .append, args := #[s, x], argTypes := #[29, 29] })
    (base : Nat) (v : Value) (n : Nat) (xs : List Value) (hs : a.eval s = v) (hown : w.ownsRow base 5 1 v n xs) (vx : Value) (bs : List UInt8) (hx : a.eval x = vx) (hb : By w vx bs) (h47 : n + bs.length ≤ 140737488355328) (hbase : base ≤ w.heap.size)
    (h : ∀ v' w', w'.ownsRow base 5 1 v' (n + bs.length) (xs ++ byV bs) → w.grownBy w' v.ownBlock → wpListIn F nF Tryz.prog ops Q rest (a.put o.dst v') w') : wpListIn F nF Tryz.prog ops Q (o :: rest) a w := by
  refine wpListIn_plain hgd fun K hK => ?_
  obtain ⟨v', w', hr, h1, h2⟩ := run_append_by o.type base v n xs w hown vx bs hb h47 hbase
  unfold Oper.wpIn
  refine ⟨by simp [Oper.about, ho, resolve, Target.leads, Sem.run_pure], ?_⟩
  rw [Oper.semAt_plain F _ _ (by rw [ho]; intro c hc'; cases hc')]
  simp [execOp, ho, resolve, invoke, builtin, hs, hx, hr, Result.andThen]
  exact hK _ _ (h v' w' h1 h2)
theorem own_lit (w : World) (b : UInt8) : (w.alloc (.cells #[.int .u8 (b.toNat : Int)] 5)).ownsRow w.heap.size 5 1 (.slice (some ⟨w.heap.size, 0, none⟩) 1 1) 1 (byV [b]) :=
  ⟨rfl, .inr ⟨w.heap.size, 1, #[.int .u8 (b.toNat : Int)], rfl, Nat.le_refl _, World.alloc_heap_new w _, Nat.le_refl _, by decide, rfl, rfl⟩⟩
def PthI (w W1 : World) (pre : List (Nat × List UInt8)) (Pv : Nat → Prop) (W : World) : Prop :=
  ∃ cs v vs, Boxed W w.heap.size 29 (.slice none 0 0) ∧ Boxed W (w.heap.size + 1) 34 (.int .i64 0) ∧ Boxed W (w.heap.size + 1 + 1) 177 v ∧ Boxed W (w.heap.size + 1 + 1 + 1) 4 (.bool (dotB (cs.getLastD []))) ∧
    RowsOf W W1.heap.size v vs (stackL [] cs) ∧ (∀ b, KB v vs b → ¬ Pv b) ∧ (∀ b, Pv b → W1.heap.size ≤ b) ∧ Keep (fun _ => False) W1 W ∧ Hid (formsL (tailsX pre) = some cs) ∧ cs.length ≤ pre.length ∧ Below w.heap.size w W
theorem PthI_abide {w W1 : World} (h : w.heap.size + 4 ≤ W1.heap.size) : Abide (PthI w W1) := by
  rintro pre Pv Pv' A B ⟨cs, v, vs, h1, h2, h3, h4, h5, h6, h7, h8, h9, h10, h11⟩ hk hp
  have kk : ∀ b, b < W1.heap.size → ¬ Pv b := fun b hb hn => by have := h7 b hn; omega
  have hs := h8.size
  refine ⟨cs, v, vs, hk.boxed h1 (kk _ (by omega)), hk.boxed h2 (kk _ (by omega)), hk.boxed h3 (kk _ (by omega)), hk.boxed h4 (kk _ (by omega)), h5.keep hk h6, fun b hb hp' => ?_, fun b hb => ?_, h8.trans (hk.mono fun _ _ h => h.elim), h9, h10, h11.trans ((hk.mono fun b _ hb => kk b (by omega)).below h11.size)⟩
  · rcases (hp b hp').1 with h' | h'
    · exact h6 b hb h'
    · have := (h5.lt b hb).2; omega
  · rcases (hp b hb).1 with h' | h'
    · exact h7 b h'
    · omega
def PthE (w : World) (l : List UInt8) (_ : List (Nat × List UInt8)) (W : World) : Prop :=
  Boxed W w.heap.size 29 (.slice none 0 0) ∧ Boxed W (w.heap.size + 1) 34 (.int .i64 2) ∧ Hid (pathL l = none) ∧ Below w.heap.size w W
set_option maxRecDepth 100000 in
set_option maxHeartbeats 8000000 in
theorem canonOfPath_any (q : Option Addr) (n c : Nat) (l : List UInt8) (w : World) (hby : By w (.slice q n c) l) (hn : n ≤ 1048576) (hform : l = [] ∨ ∃ r, l = 47 :: r) :
    Calls Tryz.prog 90 #[.slice q n c] w fun e w' => Pct.TextPost (pathL l) w e w' := by
  obtain ⟨i1, hi1, hz0, hz1, hz2⟩ := info_parts info_sl
  refine (callsIn_wide (n := 1)).1 ?_
  refine callsIn_of_wp_marks Tryz.func90 rfl trivial ?_ rfl
  simp only [Tryz.ntmps90, List.size_toArray, List.length_cons, List.length_nil, Nat.reduceAdd, Nat.reduceSub, Array.replicate_succ, Array.replicate_zero, List.push_toArray, List.append_toArray, List.nil_append, List.cons_append]
  obtain ⟨W0', hW0', b0, b1, b2, b3, hs0', hk0⟩ := four_boxes w 29 34 177 4 (.slice none 0 0) (.int .i64 0) (.slice none 0 0) (.bool false)
  clear hW0' b0 b1 b2 b3 hs0' hk0
  obtain ⟨W0, hW0⟩ : ∃ W0, (((w.alloc (.cells #[.slice none 0 0] 29)).alloc (.cells #[.int .i64 0] 34)).alloc (.cells #[.slice none 0 0] 177)).alloc (.cells #[.bool false] 4) = W0 := ⟨_, rfl⟩
  have b0 : Boxed W0 w.heap.size 29 (.slice none 0 0) := hW0 ▸ (((Boxed.new w _ _).alloc _).alloc _).alloc _
  have b1 : Boxed W0 (w.heap.size + 1) 34 (.int .i64 0) := by
    have := ((Boxed.new (w.alloc (.cells #[.slice none 0 0] 29)) 34 (.int .i64 0)).alloc (.cells #[.slice none 0 0] 177)).alloc (.cells #[.bool false] 4)
    rw [World.size_alloc] at this
    exact hW0 ▸ this
  have b2 : Boxed W0 (w.heap.size + 1 + 1) 177 (.slice none 0 0) := by
    have := (Boxed.new ((w.alloc (.cells #[.slice none 0 0] 29)).alloc (.cells #[.int .i64 0] 34)) 177 (.slice none 0 0)).alloc (.cells #[.bool false] 4)
    rw [World.size_alloc, World.size_alloc] at this
    exact hW0 ▸ this
  have b3 : Boxed W0 (w.heap.size + 1 + 1 + 1) 4 (.bool false) := by
    have := Boxed.new (((w.alloc (.cells #[.slice none 0 0] 29)).alloc (.cells #[.int .i64 0] 34)).alloc (.cells #[.slice none 0 0] 177)) 4 (.bool false)
    rw [World.size_alloc, World.size_alloc, World.size_alloc] at this
    exact hW0 ▸ this
  have hB0 : Below w.heap.size w W0 := hW0 ▸ ((((Below.refl _ w).alloc (Nat.le_refl _) _).alloc (by simp) _).alloc (by simp only [World.size_alloc]; omega) _).alloc (by simp only [World.size_alloc]; omega) _
  have hs0 : W0.heap.size = w.heap.size + 1 + 1 + 1 + 1 := by rw [← hW0]; simp
  obtain ⟨hl, hnc0, hcm0, hnil0, h⟩ := hby.at
  have hb0 := bytes_on h hB0
  have con := Split_any q n c 47 l W0 hl (by omega) hb0
  have hsmall := splitX_small 47 l n hl
  have hlenX := splitX_len 47 l
  have hnum := splitX_num 47 l
  rw [hl] at hlenX
  have HW0 := Lib.hid hW0
  have HPS := Lib.hid (path_split l hform)
  have HTS := Lib.hid (tails_split l)
  have HWT := Lib.hid (weight_split 47 l)
  have HL := Lib.hid hl
  clear hW0 hb0 hl hby h hform
  gi_wp2_with fail
  rw [HW0.out]
  refine ⟨trivial, (callsIn_wide.2 con).mono ?_⟩
  rintro e W1 ⟨B, v', rfl, hB, hBc, hrow, hBl, hbel⟩
  have hit := Split_iter (by omega) hB hBc hrow
  have hRl0 : ∀ b, (b = B ∨ b = W0.heap.size ∨ v'.ownBlock = some b) → w.heap.size + 4 ≤ b ∧ b < W1.heap.size := fun b hb => by
    rcases hb with rfl | rfl | hb
    · exact ⟨by omega, hB.lt⟩
    · exact ⟨by omega, hBc.lt⟩
    · have := hrow.lt b hb; exact ⟨by omega, this.2⟩
  obtain ⟨RB, hRB⟩ : ∃ RB : Nat → Prop, RB = fun b => b = B ∨ b = W0.heap.size ∨ v'.ownBlock = some b := ⟨_, rfl⟩
  rw [← hRB, hs0] at hit
  have hRl : ∀ b, RB b → w.heap.size + 4 ≤ b ∧ b < W1.heap.size := fun b hb => hRl0 b (by rw [hRB] at hb; exact hb)
  clear hRB hRl0
  replace b0 := (Keep.of_below hbel).boxed b0 (by omega)
  replace b1 := (Keep.of_below hbel).boxed b1 (by omega)
  replace b2 := (Keep.of_below hbel).boxed b2 (by omega)
  replace b3 := (Keep.of_below hbel).boxed b3 (by omega)
  have hB1 := hB0.trans (hbel.mono hB0.size)
  have hs1 := hbel.size
  clear con hB hBc hrow hBl hbel HW0 hB0
  generalize splitX 47 l = xs at *
  gi_wp2
  rw [hs0] at hs1
  clear hs0
  refine rf_law (gf := 146) (lb := #[.pointer (some ⟨B, 0, none⟩), .pointer (some ⟨w.heap.size + 1 + 1 + 1 + 1, 0, none⟩)]) rfl (enters_of Tryz.func146 (by kernel_rfl) rfl)
    hit (Keep.refl _ _) (fun b hb => (hRl b hb).2) (fun x args G W h => by obtain ⟨v, rfl, _⟩ := h; rfl)
    (PthI w W1) (Host.EvX W1 (PthE w l)) (PthI_abide hs1) (Host.EvX_abide ?e2)
    ⟨[], .slice none 0 0, [], b0, b1, b2, b3, RowsOf.nil _ _, (fun _ _ h => h), (fun _ h => h.elim), Keep.refl _ _, Lib.hid rfl, Nat.zero_le _, hB1⟩ ?round ?done ?stop
  case e2 =>
    rintro pre A B hk ⟨h1, h2, h3, h4⟩
    exact ⟨hk.boxed h1 (by omega), hk.boxed h2 (by omega), h3, h4.trans ((hk.mono fun b _ hb => by omega).below h4.size)⟩
  case round =>
    rintro ll pre ⟨xi, x⟩ rest Pv G args Wr hll hxs ⟨cs, v, vs, hE0, hE1, hE2, hE3, hR, hnk, hge, hK1, HF, hcl, hE8⟩ hPl hGl hPb hGP ⟨p, rfl, hp, rfl⟩
    have hxm : (xi, x) ∈ xs := by rw [hxs]; simp
    have hxl := hsmall _ hxm
    have hxi := hnum pre (xi, x) rest hxs
    simp only at hxl hp hxi
    subst hxi
    obtain ⟨qx, cx, rfl, _, hnc, hcm, hbs, hblk⟩ := row_open hp
    have hlen : pre.length + rest.length + 1 = xs.length := by rw [hxs]; simp; omega
    gi_wp2
    refine ⟨Keep.refl _ _, fun W2 hk2 hs2 r hr => ?_⟩
    have k2 : Keep (fun b => b < W1.heap.size) Wr W2 := hk2.mono fun b _ hb h => by omega
    have kP : Keep (fun b => ¬ Pv b) Wr W2 := hk2.mono fun b _ hb h => hb (h ▸ hPl)
    have f0 := k2.boxed hE0 (by omega)
    have f1 := k2.boxed hE1 (by omega)
    have f2 := k2.boxed hE2 (by omega)
    have f3 := k2.boxed hE3 (by omega)
    have hR2 := hR.keep kP hnk
    have gx : Keep (fun b => (Value.slice qx x.length cx).ownBlock = some b) Wr W2 := hk2.mono fun b _ hb h => hGl (h ▸ hb)
    have hbs2 : Lib.BytesIn W2 qx x.length (Lib.numsL x) := bytes_keep hbs gx (fun a ha _ => (hblk a ha).2.2)
    have hW2 := hE8.trans ((k2.mono fun b _ h => by omega).below hE8.size)
    have hs2' := hE8.size
    have hK2 := hK1.trans (hk2.mono fun _ _ h => h.elim)
    have hPl2 : ∀ b, Pv b → b < W2.heap.size := fun b hb => by rw [hs2]; exact hPb b hb
    have con2 := Pct.Canon_any qx x.length cx x 1 W2 rfl (by omega) hbs2
    have hszW := hW2.size
    have hs12 := hK2.size
    clear hbs hp hbs2 hblk hk2 gx hE0 hE1 hE2 hE3 hR kP k2 hK1 hE8
    by_cases hp0 : pre = []
    · have e0 : ((pre.length : Int) == 0) = true := by rw [beq_iff_eq, hp0]; rfl
      have HF2 := Lib.hid (show formsL (tailsX (pre ++ [(pre.length, x)])) = some cs by rw [hp0, tails_one]; have := HF.out; rw [hp0] at this; exact this)
      have hcl2 : cs.length ≤ (pre ++ [(pre.length, x)]).length := by rw [List.length_append]; omega
      clear con2 hxs
      gi_wp2
      exact ⟨Keep.refl _ _, cs, v, vs, f0, f1, f2, f3, hR2, fun b hb h => hnk b hb h.1, fun b hb => hge b hb.1, hK2, HF2, hcl2, hW2⟩
    · have e0 : ((pre.length : Int) == 0) = false := by
        rw [beq_eq_false_iff_ne]
        have := List.length_pos_iff.2 hp0
        omega
      have HXS := Lib.hid (show tailsX xs = tailsX pre ++ x :: rest.map Prod.snd by
        rw [hxs]; unfold tailsX
        rw [List.map_append, List.tail_append_of_ne_nil (by simpa using hp0)]; rfl)
      have HTS1 := Lib.hid (tails_snoc pre (pre.length, x) hp0)
      clear hxs hp0
      cases hf : formL 1 x with
      | none =>
        have HPN := Lib.hid (show pathL l = none by rw [HPS.out, ← HTS.out, HXS.out, forms_bad _ _ _ hf]; rfl)
        have hf' : (Pct.itemsL x).map (Pct.canL 1) = none := hf
        rw [hf'] at con2
        clear hf hf' HXS HTS1
        gi_wp2_with fail
        refine ⟨trivial, rfl, (CallsIn.inRound ll (callsIn_wide.2 con2)).mono ?_⟩
        rintro e W3 ⟨v3, n3, rfl, hn3, hr3, hb3⟩
        obtain rfl : n3 = 2 := hn3.out
        obtain ⟨q3, c3, rfl, _, _, _, _, _⟩ := row_open hr3
        have g0 := (Keep.of_below hb3).boxed f0 f0.lt
        have g1 := (Keep.of_below hb3).boxed f1 f1.lt
        have x0 := g0.cell
        have x1 := g1.cell
        have z0 := g0.frozen
        have z1 := g1.frozen
        have hW3 := hW2.trans (hb3.mono hszW)
        clear con2 hr3 hn3 f2 f3 hR2
        gi_wp2
        have kst : ∀ S : Nat → Prop, ¬ S w.heap.size → ¬ S (w.heap.size + 1) → Keep S W3 ((W3.setCell ⟨w.heap.size, 0, none⟩ (.slice none 0 0)).setCell ⟨w.heap.size + 1, 0, none⟩ (.int .i64 2)) := fun S h h' => (Keep.setCell _ _ _ h).trans (Keep.setCell _ _ _ h')
        refine ⟨((Keep.of_below hb3).mono fun b hb _ => hb).trans (kst _ (fun h => ?_) (fun h => ?_)), rfl, fun b hb => hge b hb.1, (hK2.trans ((Keep.of_below hb3).mono fun _ _ h => h.elim)).trans (kst _ (fun h => h) (fun h => h)), ?_, ?_, HPN.out, ?_⟩
        · rcases h with h | h
          · have := (hRl _ h).1; omega
          · have := hge _ h.1; omega
        · rcases h with h | h
          · have := (hRl _ h).1; omega
          · have := hge _ h.1; omega
        · exact (Keep.setCell (S := fun b => b = w.heap.size) _ ⟨w.heap.size + 1, 0, none⟩ _ (by simp)).boxed (g0.set _) rfl
        · exact ((Keep.setCell (S := fun b => b = w.heap.size + 1) W3 ⟨w.heap.size, 0, none⟩ _ (by simp)).boxed g1 rfl).set _
        · exact (hW3.setCell (p := ⟨w.heap.size, 0, none⟩) (Nat.le_refl _) _).setCell (p := ⟨w.heap.size + 1, 0, none⟩) (Nat.le_succ _) _
      | some cc =>
        have hf' : (Pct.itemsL x).map (Pct.canL 1) = some cc := hf
        rw [hf'] at con2
        have HF2 := Lib.hid (show formsL (tailsX (pre ++ [(pre.length, x)])) = some (cs ++ [cc]) by rw [HTS1.out]; exact forms_snoc _ _ _ _ HF.out hf)
        have hcl2 : (cs ++ [cc]).length ≤ (pre ++ [(pre.length, x)]).length := by rw [List.length_append, List.length_append]; simp; omega
        have hkl := stack_len cs []
        clear hf hf' HXS HTS1 HF
        obtain ⟨qv, cv, rfl, hv1, hv2⟩ := rows_slice hR2
        obtain ⟨ks, hks⟩ : ∃ ks, stackL [] cs = ks := ⟨_, rfl⟩
        rw [hks] at hR2 hv1 hkl hnk f2
        have HKS := Lib.hid hks
        have HSN := Lib.hid (stack_snoc cs cc)
        rw [hks] at HSN
        have HLN := Lib.hid (last_snoc cs cc)
        obtain ⟨m, hm⟩ : ∃ m, ks.length = m := ⟨_, rfl⟩
        rw [hm] at hv1 hkl hnk f2 hR2
        have HM := Lib.hid hm
        simp only [List.length_nil, Nat.zero_add] at hkl
        clear hks
        gi_wp2_with fail
        refine ⟨trivial, rfl, (CallsIn.inRound ll (callsIn_wide.2 con2)).mono ?_⟩
        rintro e W3 ⟨v3, n3, rfl, hn3, hr3, hb3⟩
        obtain rfl : n3 = 0 := hn3.out
        replace hr3 : W3.ownsRow W2.heap.size 5 1 v3 cc.length (byV cc) := hr3
        obtain ⟨q3, c3, rfl, _, _, _, hbb, hblk3⟩ := row_open hr3
        have hcv := conv_bytes (c := c3) hbb rfl
        have g0 := (Keep.of_below hb3).boxed f0 f0.lt
        have g1 := (Keep.of_below hb3).boxed f1 f1.lt
        have g2 := (Keep.of_below hb3).boxed f2 f2.lt
        have g3 := (Keep.of_below hb3).boxed f3 f3.lt
        have hR3 := hR2.keep (Keep.of_below hb3) (fun b hb => (hR2.lt b hb).2)
        have x2 := g2.cell
        have x3 := g3.cell
        have z2 := g2.frozen
        have z3 := g3.frozen
        have hW3 := hW2.trans (hb3.mono hszW)
        have hs23 := hb3.size
        have hK3 : Keep (fun _ => False) W1 W3 := hK2.trans ((Keep.of_below hb3).mono fun _ _ h => h.elim)
        have hkk : Keep (fun b => RB b ∨ Pv b ∧ ¬(Value.slice qx x.length cx).ownBlock = some b) W2 W3 := (Keep.of_below hb3).mono fun b hb _ => hb
        have hPl3 : ∀ b, Pv b → b < W2.heap.size := hPl2
        have hnb : ∀ b, b < w.heap.size + 4 → ¬ (RB b ∨ Pv b ∧ ¬(Value.slice qx x.length cx).ownBlock = some b) := fun b hb h => by
          rcases h with h | h
          · have := (hRl _ h).1; omega
          · have := hge _ h.1; omega
        clear con2 hn3 f0 f1 f2 f3 hR2 hbb hblk3
        by_cases h1 : cc = [46]
        · have e1 : (cc == ([46] : List UInt8)) = true := by rw [beq_iff_eq]; exact h1
          have HSK := Lib.hid (show stackL [] (cs ++ [cc]) = ks by rw [HSN.out, if_pos h1])
          have HDT := Lib.hid (show dotB ((cs ++ [cc]).getLastD []) = true by rw [HLN.out, h1]; decide)
          clear h1 HSN HLN
          gi_wp2
          have kst : ∀ S : Nat → Prop, ¬ S (w.heap.size + 1 + 1 + 1) → Keep S W3 (W3.setCell ⟨w.heap.size + 1 + 1 + 1, 0, none⟩ (.bool true)) := fun S h => Keep.setCell _ _ _ h
          refine ⟨hkk.trans (kst _ (hnb _ (by omega))), cs ++ [cc], _, vs, (kst (fun b => b = w.heap.size) (by omega)).boxed g0 rfl, (kst (fun b => b = w.heap.size + 1) (by omega)).boxed g1 rfl, (kst (fun b => b = w.heap.size + 1 + 1) (by omega)).boxed g2 rfl, ?_, ?_, fun b hb h => hnk b hb h.1, fun b hb => hge b hb.1, hK3.trans (kst _ (fun h => h)), HF2, hcl2, hW3.setCell (p := ⟨w.heap.size + 1 + 1 + 1, 0, none⟩) (show w.heap.size ≤ w.heap.size + 1 + 1 + 1 by omega) _⟩
          · rw [HDT.out]; exact g3.set _
          · rw [HSK.out]; exact hR3.keep (kst (fun b => b ≠ w.heap.size + 1 + 1 + 1) (fun h => h rfl)) (fun b hb => by have := (hR3.lt b hb).1; omega)
        · have e1 : (cc == ([46] : List UInt8)) = false := by rw [beq_eq_false_iff_ne]; exact h1
          by_cases h2 : cc = [46, 46]
          · have e2 : (cc == ([46, 46] : List UInt8)) = true := by rw [beq_iff_eq]; exact h2
            have HSK := Lib.hid (show stackL [] (cs ++ [cc]) = ks.dropLast by rw [HSN.out, if_neg h1, if_pos h2])
            have HDT := Lib.hid (show dotB ((cs ++ [cc]).getLastD []) = true by rw [HLN.out, h2]; decide)
            have hmx : (max ((m : Int) - 1) 0).toNat = m - 1 := by omega
            have HMX := Lib.hid hmx
            clear h1 h2 HSN HLN hmx
            gi_wp2
            rw [HMX.out]
            have kst : ∀ S : Nat → Prop, ¬ S (w.heap.size + 1 + 1) → ¬ S (w.heap.size + 1 + 1 + 1) → Keep S W3 ((W3.setCell ⟨w.heap.size + 1 + 1, 0, none⟩ (.slice qv (m - 1) cv)).setCell ⟨w.heap.size + 1 + 1 + 1, 0, none⟩ (.bool true)) := fun S h h' => (Keep.setCell _ _ _ h).trans (Keep.setCell _ _ _ h')
            have hRd := (hR3.dropLast).2
            refine ⟨hkk.trans (kst _ (hnb _ (by omega)) (hnb _ (by omega))), cs ++ [cc], _, vs.dropLast, (kst (fun b => b = w.heap.size) (by omega) (by omega)).boxed g0 rfl, (kst (fun b => b = w.heap.size + 1) (by omega) (by omega)).boxed g1 rfl,
              (Keep.setCell (S := fun b => b = w.heap.size + 1 + 1) _ ⟨w.heap.size + 1 + 1 + 1, 0, none⟩ _ (by simp)).boxed (g2.set _) rfl, ?_, ?_, fun b hb h => hnk b ?_ h.1, fun b hb => hge b hb.1, hK3.trans (kst _ (fun h => h) (fun h => h)), HF2, hcl2,
              (hW3.setCell (p := ⟨w.heap.size + 1 + 1, 0, none⟩) (show w.heap.size ≤ w.heap.size + 1 + 1 by omega) _).setCell (p := ⟨w.heap.size + 1 + 1 + 1, 0, none⟩) (show w.heap.size ≤ w.heap.size + 1 + 1 + 1 by omega) _⟩
            · rw [HDT.out]; exact ((Keep.setCell (S := fun b => b = w.heap.size + 1 + 1 + 1) W3 ⟨w.heap.size + 1 + 1, 0, none⟩ _ (by simp)).boxed g3 rfl).set _
            · rw [HSK.out]; exact hRd.keep (kst (fun b => b ≠ w.heap.size + 1 + 1 ∧ b ≠ w.heap.size + 1 + 1 + 1) (fun h => h.1 rfl) (fun h => h.2 rfl)) (fun b hb => by have := (hRd.lt b hb).1; omega)
            · rcases hb with hb | ⟨y, hy, hb⟩
              · exact .inl ((own_len qv _ _ _ _).symm.trans hb)
              · exact .inr ⟨y, List.dropLast_subset _ hy, hb⟩
          · have e2 : (cc == ([46, 46] : List UInt8)) = false := by rw [beq_eq_false_iff_ne]; exact h2
            have HSK := Lib.hid (show stackL [] (cs ++ [cc]) = ks ++ [cc] by rw [HSN.out, if_neg h1, if_neg h2])
            have HDT := Lib.hid (show dotB ((cs ++ [cc]).getLastD []) = false by rw [HLN.out]; unfold dotB; simp [h1, h2])
            clear h1 h2 HSN HLN
            gi_wp2_with (gi_at_builtin; go_must (refine wpListIn_append_own_at _ rfl _ _ 177 rfl W1.heap.size 29 i1 (.slice none 0 0) 1 24 Tryz.underlying177 hi1 hz0 hz1 hz2 rfl (by decide) _ _ _ rfl (hR3.1.alloc _) ⟨W3.heap.size, 0, none⟩ 1 1 [.slice q3 cc.length c3] rfl rfl (cell_one_new _ _ _) (by simp [Value.oneCell']) (by rw [HM.out]; unfold maxLen; omega) (by rw [HM.out]; omega) (by simp; omega) ?_); intro v' w4 hown' hgrow _ hat; obtain ⟨g', cap', rfl⟩ := ownsRow_succ hown'; obtain ⟨hv1', hv2', hr2', hkk'⟩ := Pct.appended_keep (S := fun b => b ≠ w.heap.size + 1 + 1 ∧ ¬ (Value.slice qv m cv).ownBlock = some b) g2 (by decide) hR3.1 (fun h => h.1 rfl) (fun b hb h => h.2 hb) hown' hgrow; have hc1 := hv1'.cell; have hf1 := hv1'.frozen; have hx4 := (g3.alloc (.cells #[.slice q3 cc.length c3] 29)).kept hgrow (g3.not_row (by decide) hR3.1); have hx4c := hx4.cell; have hx4f := hx4.frozen)
            rw [hm] at hkk' hv2' hr2' hat
            have hol : ∀ b, (Value.slice qv m cv).ownBlock = some b → W1.heap.size ≤ b := fun b hb => (hR3.1.lt b hb).1
            have hx5 := (Keep.setCell (S := fun b => b = w.heap.size + 1 + 1 + 1) w4 ⟨w.heap.size + 1 + 1, 0, none⟩ (.slice (some ⟨g', 0, none⟩) (m + 1) cap') (by simp)).boxed hx4 rfl
            have k35 : ∀ S : Nat → Prop, (∀ b, S b → b ≠ w.heap.size + 1 + 1 ∧ b ≠ w.heap.size + 1 + 1 + 1 ∧ ¬ (Value.slice qv m cv).ownBlock = some b) → Keep S W3 ((w4.setCell ⟨w.heap.size + 1 + 1, 0, none⟩ (.slice (some ⟨g', 0, none⟩) (m + 1) cap')).setCell ⟨w.heap.size + 1 + 1 + 1, 0, none⟩ (.bool false)) := fun S hS =>
              (hkk'.mono fun b _ hb => ⟨(hS b hb).1, (hS b hb).2.2⟩).trans (Keep.setCell _ _ _ fun h => (hS _ h).2.1 rfl)
            have hs14 : w.heap.size + 4 ≤ W1.heap.size := hs1
            have hlt2 : (vs ++ [Value.slice q3 cc.length c3]).length = (ks ++ [cc]).length := by rw [List.length_append, List.length_append, hR3.len]; rfl
            have hvl := hR3.len
            refine ⟨hkk.trans (k35 _ fun b hb => ?_), cs ++ [cc], _, vs ++ [.slice q3 cc.length c3], (k35 (fun b => b = w.heap.size) (fun b hb => ⟨by omega, by omega, fun h => by have := hol b h; omega⟩)).boxed g0 rfl, (k35 (fun b => b = w.heap.size + 1) (fun b hb => ⟨by omega, by omega, fun h => by have := hol b h; omega⟩)).boxed g1 rfl,
              (Keep.setCell (S := fun b => b = w.heap.size + 1 + 1) _ ⟨w.heap.size + 1 + 1 + 1, 0, none⟩ _ (by simp)).boxed hv2' rfl, ?_, ?_, ?_, fun b hb => hge b hb.1, hK3.trans (k35 _ fun b hb => hb.elim), HF2, hcl2, hW3.trans ((k35 (fun b => b < w.heap.size) (fun b hb => ⟨by omega, by omega, fun h => by have := hol b h; omega⟩)).below hW3.size)⟩
            · refine ⟨fun h => hnb b (by omega) hb, fun h => hnb b (by omega) hb, fun h => ?_⟩
              rcases hb with hb | hb
              · have := (hRl b hb).2; have := hol b h; omega
              · exact hnk b (.inl h) hb.1
            · rw [HDT.out]; exact hx5.set _
            · rw [HSK.out]
              refine ⟨?_, fun i y k hi hk => ?_⟩
              · rw [List.length_append, HM.out]
                exact (Keep.setCell (S := fun b => b ≠ w.heap.size + 1 + 1 + 1) _ ⟨w.heap.size + 1 + 1 + 1, 0, none⟩ _ (fun h => h rfl)).row hr2' (fun b hb => by have := (hr2'.lt b hb).1; omega)
              · have keepRow : ∀ (z : Value) (kz : List UInt8), W3.ownsRow W1.heap.size 5 1 z kz.length (byV kz) → ((w4.setCell ⟨w.heap.size + 1 + 1, 0, none⟩ (.slice (some ⟨g', 0, none⟩) (m + 1) cap')).setCell ⟨w.heap.size + 1 + 1 + 1, 0, none⟩ (.bool false)).ownsRow W1.heap.size 5 1 z kz.length (byV kz) := fun z kz hz =>
                  (k35 (fun b => z.ownBlock = some b) fun b hb => ⟨by have := (hz.lt b hb).1; omega, by have := (hz.lt b hb).1; omega, fun h => byte_row_ne hR3.1 hz h hb⟩).row hz (fun b hb => hb)
                rcases Nat.lt_or_ge i vs.length with hlt | hlt
                · rw [List.getElem?_append_left hlt] at hi
                  rw [List.getElem?_append_left (by omega)] at hk
                  exact keepRow y k (hR3.2 i y k hi hk)
                · rw [List.getElem?_append_right hlt] at hi
                  rw [List.getElem?_append_right (by omega)] at hk
                  have hi0 : i - vs.length = 0 := by
                    have := (List.getElem?_eq_some_iff.1 hi).1
                    simpa using this
                  rw [hi0] at hi
                  rw [show i - ks.length = 0 by omega] at hk
                  cases hi
                  cases hk
                  exact keepRow _ _ (row_base hr3 hs12)
            · rintro b (hb | ⟨y, hy, hb⟩) h
              · rcases hat with h' | h'
                · exact hnk b (.inl (h' ▸ hb)) h.1
                · rw [h'] at hb
                  cases hb
                  have := hPl3 _ h.1
                  simp at this
                  omega
              · rcases List.mem_append.1 hy with hy | hy
                · exact hnk b (.inr ⟨y, hy, hb⟩) h.1
                · rw [List.mem_singleton.1 hy] at hb
                  have h5 := (hr3.lt b hb).1
                  have h6 := hPl3 b h.1
                  omega
  case done =>
    rintro D Pv Wd hD hPD hPl ⟨cs, v, vs, hE0, hE1, hE2, hE3, hR, hnk, hge, hK1, HF, hcl, hE8⟩ hK
    have hF := HF.out
    rw [HTS.out] at hF
    have HP := Lib.hid (show pathL l = some (47 :: Ref.joinL 47 (dotsL cs)) by rw [HPS.out, hF]; rfl)
    have hw1 := weight_forms _ _ hF
    have hw2 : weightL (Ref.splitL 47 l).tail ≤ weightL (Ref.splitL 47 l) := by
      cases Ref.splitL 47 l with
      | nil => exact Nat.le_refl _
      | cons p r => rw [List.tail_cons, weightL]; omega
    have hw3 := weight_dots cs
    have hwd : weightL (dotsL cs) ≤ 4194304 := by have := HWT.out; have := HL.out; omega
    have hwj := weight_join 47 (dotsL cs)
    obtain ⟨qv, cv, rfl, hv1, hv2⟩ := rows_slice hR
    have HDL := Lib.hid (show dotsL cs = stackL [] cs ++ (if dotB (cs.getLastD []) = true then [[]] else []) from rfl)
    have hkl := stack_len cs []
    have hcx : cs.length ≤ n + 1 := Nat.le_trans hcl hlenX
    obtain ⟨ks, hks⟩ : ∃ ks, stackL [] cs = ks := ⟨_, rfl⟩
    rw [hks] at hR hv1 hkl hnk hE2
    have HKS := Lib.hid hks
    simp only [List.length_nil, Nat.zero_add] at hkl
    have hDl := hPl D hPD
    have hszd := hE8.size
    have hs1d := hK1.size
    have hgD := hge D hPD
    have y0 := hE0.cell
    have y1 := hE1.cell
    have y2 := hE2.cell
    have y3 := hE3.cell
    have u0 := hE0.frozen
    have u1 := hE1.frozen
    have u2 := hE2.frozen
    clear hks hF hw1 hw2 hw3 HF HTS HPS HWT hcl hlenX
    generalize dotB (cs.getLastD []) = dt at *
    cases dt with
    | false =>
      have HDK := Lib.hid (show dotsL cs = ks by rw [HDL.out, HKS.out]; simp)
      rw [HDK.out] at hwd hwj
      rw [HDK.out] at HP
      clear HDK HDL HKS
      have z2 : ∀ o, (Wd.alloc o).cell? ⟨w.heap.size + 1 + 1, 0, none⟩ = some (.slice qv ks.length cv) := fun o => (hE2.alloc o).cell
      have hlit := by_lit Wd #[.int .u8 47] [47] (0, 0) 1 rfl rfl (by decide)
      have hown := own_lit Wd 47
      have hBl := (Below.refl Wd.heap.size Wd).alloc (Nat.le_refl _) (.cells #[.int .u8 47] 5)
      have conJ := Join_any W1.heap.size cv (ks.length) qv (vs) (ks) (.slice (some ⟨Wd.heap.size, 0, none⟩) 1 1) (Wd.alloc (.cells #[.int .u8 47] 5)) (hR.keep (Keep.alloc (fun _ => True) _ _) (fun _ _ => trivial)) hlit (by omega)
      have hWs : (Wd.alloc (.cells #[.int .u8 47] 5)).heap.size = Wd.heap.size + 1 := by simp
      gi_wp2_with fail
      refine ⟨trivial, (callsIn_wide.2 conJ).mono ?_⟩
      rintro e V ⟨v5, rfl, hJ, hb5⟩
      have hownV := (Keep.of_below hb5).row hown (fun k hk => (hown.lt k hk).2)
      have hbV := hBl.trans (hb5.mono hBl.size)
      have hVs := hb5.size
      have r0 := (Keep.of_below hbV).boxed hE0 hE0.lt
      have r1 := (Keep.of_below hbV).boxed hE1 hE1.lt
      have rD := (hbV.block D (Array.getElem?_eq_some_iff.1 hK).1).trans hK
      have hE8V := hE8.trans (hbV.mono hE8.size)
      have l0 := (Array.getElem?_eq_some_iff.1 hK).1
      clear conJ hown hlit hb5 z2 hBl
      gi_wp2_with (gi_at_builtin; go_must (refine wpListIn_append_by rfl _ _ rfl Wd.heap.size _ 1 _ rfl hownV _ _ rfl hJ (by omega) hbV.size ?_); intro v6 X hr6 hg6; rw [← byV_app] at hr6; obtain ⟨q6, c6, rfl, _⟩ := row_open hr6; have k6 : ∀ S : Nat → Prop, (∀ b, S b → b < Wd.heap.size) → Keep S V X := (fun S hS => Keep.of_grownBy hg6 fun b hb h => (by have h1 := (hownV.lt b hb).1; have h2 := hS b h; omega)); have s0 := (k6 (fun b => b = w.heap.size) (fun b hb => by have := hE0.lt; omega)).boxed r0 rfl; have s1 := (k6 (fun b => b = w.heap.size + 1) (fun b hb => by have := hE1.lt; omega)).boxed r1 rfl; have sc0 := s0.cell; have sc1 := s1.cell; have sf0 := s0.frozen; have sf1 := s1.frozen)
      have k7 : ∀ S : Nat → Prop, ¬ S w.heap.size → ¬ S (w.heap.size + 1) → Keep S X ((X.setCell ⟨w.heap.size, 0, none⟩ (.slice q6 (1 + (Ref.joinL 47 (ks)).length) c6)).setCell ⟨w.heap.size + 1, 0, none⟩ (.int .i64 0)) := fun S h h' => (Keep.setCell _ _ _ h).trans (Keep.setCell _ _ _ h')
      have k8 : ∀ (S : Nat → Prop) (Y : World), ¬ S D → Keep S Y (Y.putObj D (.deferred none)) := fun S Y h => Keep.putObj _ _ _ h
      have hKd : ((X.setCell ⟨w.heap.size, 0, none⟩ (.slice q6 (1 + (Ref.joinL 47 (ks)).length) c6)).setCell ⟨w.heap.size + 1, 0, none⟩ (.int .i64 0)).heap[D]? = some (.deferred (some [])) := ((k6 (fun b => b = D) (fun b hb => by rw [hb]; exact l0)).trans (k7 (fun b => b = D) (by omega) (by omega))).heap rfl rD
      have q0 : Boxed ((X.setCell ⟨w.heap.size, 0, none⟩ (.slice q6 (1 + (Ref.joinL 47 (ks)).length) c6)).setCell ⟨w.heap.size + 1, 0, none⟩ (.int .i64 0)) w.heap.size 29 (.slice q6 (1 + (Ref.joinL 47 (ks)).length) c6) := (Keep.setCell (S := fun b => b = w.heap.size) _ ⟨w.heap.size + 1, 0, none⟩ _ (by simp)).boxed (s0.set _) rfl
      have q1 : Boxed ((X.setCell ⟨w.heap.size, 0, none⟩ (.slice q6 (1 + (Ref.joinL 47 (ks)).length) c6)).setCell ⟨w.heap.size + 1, 0, none⟩ (.int .i64 0)) (w.heap.size + 1) 34 (.int .i64 0) := ((Keep.setCell (S := fun b => b = w.heap.size + 1) X ⟨w.heap.size, 0, none⟩ _ (by simp)).boxed s1 rfl).set _
      refine ⟨by simp, .inl ⟨_, _, rfl, run_takeDeferred hKd, ?_⟩⟩
      refine ⟨_, results_path rfl _ _ w.heap.size (w.heap.size + 1) _ _ rfl rfl ((k8 (fun b => b = w.heap.size) _ (by omega)).boxed q0 rfl).cell ((k8 (fun b => b = w.heap.size + 1) _ (by omega)).boxed q1 rfl).cell, ?_⟩
      rw [HP.out]
      have hk9 : ∀ S : Nat → Prop, ¬ S w.heap.size → ¬ S (w.heap.size + 1) → ¬ S D → Keep S X (((X.setCell ⟨w.heap.size, 0, none⟩ (.slice q6 (1 + (Ref.joinL 47 (ks)).length) c6)).setCell ⟨w.heap.size + 1, 0, none⟩ (.int .i64 0)).putObj D (.deferred none)) := fun S h h' h'' => (k7 S h h').trans (k8 S _ h'')
      refine ⟨_, 0, rfl, Lib.hid rfl, ?_, ?_⟩
      · have hfin : (47 :: Ref.joinL 47 (ks)).length = 1 + (Ref.joinL 47 (ks)).length := by rw [List.length_cons]; omega
        show World.ownsRow _ w.heap.size 5 1 (.slice q6 (1 + (Ref.joinL 47 (ks)).length) c6) (47 :: Ref.joinL 47 (ks)).length (byV (47 :: Ref.joinL 47 (ks)))
        rw [hfin]
        exact row_base ((hk9 (fun b => Wd.heap.size ≤ b) (by have := hE0.lt; omega) (by have := hE1.lt; omega) (by omega)).row hr6 (fun b hb => (hr6.lt b hb).1)) (by have := hE0.lt; omega)
      · exact hE8V.trans (((k6 (fun b => b < w.heap.size) (fun b hb => by have := hE0.lt; omega)).trans (hk9 (fun b => b < w.heap.size) (by omega) (by omega) (by omega))).below hE8V.size)
    | true =>
      have HDK := Lib.hid (show dotsL cs = ks ++ [[]] by rw [HDL.out, HKS.out]; simp)
      rw [HDK.out] at hwd hwj
      rw [HDK.out] at HP
      clear HDK HDL HKS
      have hnb2 := hR.not_box hE2 (by decide) (by decide)
      gi_wp2_with (gi_at_builtin; go_must (refine wpListIn_append_own_at _ rfl _ _ 177 rfl W1.heap.size 29 i1 (.slice none 0 0) 1 24 Tryz.underlying177 hi1 hz0 hz1 hz2 rfl (by decide) _ _ _ rfl (hR.1.alloc _) ⟨Wd.heap.size, 0, none⟩ 1 1 [.slice none 0 0] rfl rfl (cell_one_new _ _ _) (by simp [Value.oneCell']) (by unfold maxLen; omega) (by omega) (by simp; omega) ?_); intro v' w4 hown' hgrow _ hat; obtain ⟨g', cap', rfl⟩ := ownsRow_succ hown'; obtain ⟨hv1', hv2', hr2', hkk'⟩ := Pct.appended_keep (S := fun b => b ≠ w.heap.size + 1 + 1 ∧ ¬ (Value.slice qv ks.length cv).ownBlock = some b) hE2 (by decide) hR.1 (fun h => h.1 rfl) (fun b hb h => h.2 hb) hown' hgrow; have hc1 := hv1'.cell; have hf1 := hv1'.frozen; have z4 : ∀ o, ((w4.setCell ⟨w.heap.size + 1 + 1, 0, none⟩ (.slice (some ⟨g', 0, none⟩) (ks.length + 1) cap')).alloc o).cell? ⟨w.heap.size + 1 + 1, 0, none⟩ = some (.slice (some ⟨g', 0, none⟩) (ks.length + 1) cap') := fun o => (hv2'.alloc o).cell)
      obtain ⟨Wc, hWc⟩ : ∃ Wc, w4.setCell ⟨w.heap.size + 1 + 1, 0, none⟩ (.slice (some ⟨g', 0, none⟩) (ks.length + 1) cap') = Wc := ⟨_, rfl⟩
      have hWcs : Wc.heap.size = w4.heap.size := by rw [← hWc]; simp [World.setCell]
      rw [hWc, ← hWcs]
      rw [hWc] at hv2' hr2' hkk' z4
      clear hWc hWcs hc1 hf1 z4 hv1' hown' hgrow
      have hol : ∀ b, (Value.slice qv ks.length cv).ownBlock = some b → W1.heap.size ≤ b := fun b hb => (hR.1.lt b hb).1
      have hC0 := hkk'.boxed hE0 ⟨by omega, fun h => by have := hol _ h; omega⟩
      have hC1 := hkk'.boxed hE1 ⟨by omega, fun h => by have := hol _ h; omega⟩
      have hC2 := hv2'
      have hCK := hkk'.heap ⟨by omega, fun h => hnk D (.inl h) hPD⟩ hK
      have hCE := hE8.trans ((hkk'.mono fun b _ hb => show b ≠ w.heap.size + 1 + 1 ∧ ¬ (Value.slice qv ks.length cv).ownBlock = some b from ⟨by omega, fun h => by have := hol _ h; omega⟩).below hE8.size)
      have hCl := hkk'.size
      have hvl := hR.len
      have hCR : RowsOf Wc W1.heap.size (.slice (some ⟨g', 0, none⟩) (ks.length + 1) cap') (vs ++ [Value.slice none 0 0]) (ks ++ [[]]) := by
        refine ⟨by rw [List.length_append]; exact hr2', fun i y k hi hk => ?_⟩
        rcases Nat.lt_or_ge i vs.length with hlt | hlt
        · rw [List.getElem?_append_left hlt] at hi
          rw [List.getElem?_append_left (by omega)] at hk
          have hz := hR.2 i y k hi hk
          exact (hkk'.mono fun b _ hb => show b ≠ w.heap.size + 1 + 1 ∧ ¬ (Value.slice qv ks.length cv).ownBlock = some b from ⟨by have := (hz.lt b hb).1; omega, fun h => byte_row_ne hR.1 hz h hb⟩).row hz (fun b hb => hb)
        · rw [List.getElem?_append_right hlt] at hi
          rw [List.getElem?_append_right (by omega)] at hk
          have hi0 : i - vs.length = 0 := by
            have := (List.getElem?_eq_some_iff.1 hi).1
            simpa using this
          rw [hi0] at hi
          rw [show i - ks.length = 0 by omega] at hk
          cases hi
          cases hk
          exact World.ownsRow_nil _ _ _ _
      have hszd' := Nat.le_trans hszd hCl
      clear hkk' hr2' hv2' hat hR hol hvl
      have z2 : ∀ o, (Wc.alloc o).cell? ⟨w.heap.size + 1 + 1, 0, none⟩ = some (.slice (some ⟨g', 0, none⟩) (ks.length + 1) cap') := fun o => (hC2.alloc o).cell
      have hlit := by_lit Wc #[.int .u8 47] [47] (0, 0) 1 rfl rfl (by decide)
      have hown := own_lit Wc 47
      have hBl := (Below.refl Wc.heap.size Wc).alloc (Nat.le_refl _) (.cells #[.int .u8 47] 5)
      have conJ := Join_any W1.heap.size cap' (ks.length + 1) (some ⟨g', 0, none⟩) (vs ++ [Value.slice none 0 0]) (ks ++ [[]]) (.slice (some ⟨Wc.heap.size, 0, none⟩) 1 1) (Wc.alloc (.cells #[.int .u8 47] 5)) (hCR.keep (Keep.alloc (fun _ => True) _ _) (fun _ _ => trivial)) hlit (by omega)
      have hWs : (Wc.alloc (.cells #[.int .u8 47] 5)).heap.size = Wc.heap.size + 1 := by simp
      refine ⟨trivial, (callsIn_wide.2 conJ).mono ?_⟩
      rintro e V ⟨v5, rfl, hJ, hb5⟩
      have hownV := (Keep.of_below hb5).row hown (fun k hk => (hown.lt k hk).2)
      have hbV := hBl.trans (hb5.mono hBl.size)
      have hVs := hb5.size
      have r0 := (Keep.of_below hbV).boxed hC0 hC0.lt
      have r1 := (Keep.of_below hbV).boxed hC1 hC1.lt
      have rD := (hbV.block D (Array.getElem?_eq_some_iff.1 hCK).1).trans hCK
      have hE8V := hCE.trans (hbV.mono hCE.size)
      have l0 := (Array.getElem?_eq_some_iff.1 hCK).1
      clear conJ hown hlit hb5 z2 hBl
      gi_wp2_with (gi_at_builtin; go_must (refine wpListIn_append_by rfl _ _ rfl Wc.heap.size _ 1 _ rfl hownV _ _ rfl hJ (by omega) hbV.size ?_); intro v6 X hr6 hg6; rw [← byV_app] at hr6; obtain ⟨q6, c6, rfl, _⟩ := row_open hr6; have k6 : ∀ S : Nat → Prop, (∀ b, S b → b < Wc.heap.size) → Keep S V X := (fun S hS => Keep.of_grownBy hg6 fun b hb h => (by have h1 := (hownV.lt b hb).1; have h2 := hS b h; omega)); have s0 := (k6 (fun b => b = w.heap.size) (fun b hb => by have := hC0.lt; omega)).boxed r0 rfl; have s1 := (k6 (fun b => b = w.heap.size + 1) (fun b hb => by have := hC1.lt; omega)).boxed r1 rfl; have sc0 := s0.cell; have sc1 := s1.cell; have sf0 := s0.frozen; have sf1 := s1.frozen)
      have k7 : ∀ S : Nat → Prop, ¬ S w.heap.size → ¬ S (w.heap.size + 1) → Keep S X ((X.setCell ⟨w.heap.size, 0, none⟩ (.slice q6 (1 + (Ref.joinL 47 (ks ++ [[]])).length) c6)).setCell ⟨w.heap.size + 1, 0, none⟩ (.int .i64 0)) := fun S h h' => (Keep.setCell _ _ _ h).trans (Keep.setCell _ _ _ h')
      have k8 : ∀ (S : Nat → Prop) (Y : World), ¬ S D → Keep S Y (Y.putObj D (.deferred none)) := fun S Y h => Keep.putObj _ _ _ h
      have hKd : ((X.setCell ⟨w.heap.size, 0, none⟩ (.slice q6 (1 + (Ref.joinL 47 (ks ++ [[]])).length) c6)).setCell ⟨w.heap.size + 1, 0, none⟩ (.int .i64 0)).heap[D]? = some (.deferred (some [])) := ((k6 (fun b => b = D) (fun b hb => by rw [hb]; exact l0)).trans (k7 (fun b => b = D) (by omega) (by omega))).heap rfl rD
      have q0 : Boxed ((X.setCell ⟨w.heap.size, 0, none⟩ (.slice q6 (1 + (Ref.joinL 47 (ks ++ [[]])).length) c6)).setCell ⟨w.heap.size + 1, 0, none⟩ (.int .i64 0)) w.heap.size 29 (.slice q6 (1 + (Ref.joinL 47 (ks ++ [[]])).length) c6) := (Keep.setCell (S := fun b => b = w.heap.size) _ ⟨w.heap.size + 1, 0, none⟩ _ (by simp)).boxed (s0.set _) rfl
      have q1 : Boxed ((X.setCell ⟨w.heap.size, 0, none⟩ (.slice q6 (1 + (Ref.joinL 47 (ks ++ [[]])).length) c6)).setCell ⟨w.heap.size + 1, 0, none⟩ (.int .i64 0)) (w.heap.size + 1) 34 (.int .i64 0) := ((Keep.setCell (S := fun b => b = w.heap.size + 1) X ⟨w.heap.size, 0, none⟩ _ (by simp)).boxed s1 rfl).set _
      refine ⟨by simp, .inl ⟨_, _, rfl, run_takeDeferred hKd, ?_⟩⟩
      refine ⟨_, results_path rfl _ _ w.heap.size (w.heap.size + 1) _ _ rfl rfl ((k8 (fun b => b = w.heap.size) _ (by omega)).boxed q0 rfl).cell ((k8 (fun b => b = w.heap.size + 1) _ (by omega)).boxed q1 rfl).cell, ?_⟩
      rw [HP.out]
      have hk9 : ∀ S : Nat → Prop, ¬ S w.heap.size → ¬ S (w.heap.size + 1) → ¬ S D → Keep S X (((X.setCell ⟨w.heap.size, 0, none⟩ (.slice q6 (1 + (Ref.joinL 47 (ks ++ [[]])).length) c6)).setCell ⟨w.heap.size + 1, 0, none⟩ (.int .i64 0)).putObj D (.deferred none)) := fun S h h' h'' => (k7 S h h').trans (k8 S _ h'')
      refine ⟨_, 0, rfl, Lib.hid rfl, ?_, ?_⟩
      · have hfin : (47 :: Ref.joinL 47 (ks ++ [[]])).length = 1 + (Ref.joinL 47 (ks ++ [[]])).length := by rw [List.length_cons]; omega
        show World.ownsRow _ w.heap.size 5 1 (.slice q6 (1 + (Ref.joinL 47 (ks ++ [[]])).length) c6) (47 :: Ref.joinL 47 (ks ++ [[]])).length (byV (47 :: Ref.joinL 47 (ks ++ [[]])))
        rw [hfin]
        exact row_base ((hk9 (fun b => Wc.heap.size ≤ b) (by have := hC0.lt; omega) (by have := hC1.lt; omega) (by omega)).row hr6 (fun b hb => (hr6.lt b hb).1)) (by have := hC0.lt; omega)
      · exact hE8V.trans (((k6 (fun b => b < w.heap.size) (fun b hb => by have := hC0.lt; omega)).trans (hk9 (fun b => b < w.heap.size) (by omega) (by omega) (by omega))).below hE8V.size)
  case stop =>
    rintro D cc pre rest Pv Wd hD hPD hPl hxs ⟨rfl, hge, hK1, hE0, hE1, HPN, hE4⟩ hK
    have kp : ∀ (S : Nat → Prop) (W : World), ¬ S D → Keep S W (W.putObj D (.deferred none)) := fun S W h => Keep.putObj _ _ _ h
    clear hxs
    have hgD := hge D hPD
    have hs1d := hK1.size
    gi_wp2
    refine ⟨by simp, .inl ⟨_, _, rfl, run_takeDeferred hK, ?_⟩⟩
    refine ⟨_, results_path rfl _ _ w.heap.size (w.heap.size + 1) _ _ rfl rfl ((kp (fun b => b = w.heap.size) _ (by omega)).boxed hE0 rfl).cell ((kp (fun b => b = w.heap.size + 1) _ (by omega)).boxed hE1 rfl).cell, ?_⟩
    rw [HPN.out]
    exact ⟨_, 2, rfl, Lib.hid rfl, World.ownsRow_nil _ _ _ _, hE4.trans ((kp (fun b => b < w.heap.size) _ (by omega)).below hE4.size)⟩
end Go.Proofs.YtniehbjoogaccaaGreatDoor.Url
namespace Go.Proofs.YtniehbjoogaccaaGreatDoor.Org
open Go.RowKit Go.Shelf Url
attribute [local go_sem] Oper.semAt_some
def orgV (s h : List UInt8) (p c : Int) : Value := .agg #[.string ⟨s.toArray⟩, .string ⟨h.toArray⟩, .int .i64 p, .int .i64 c]
def OB (B : Nat) (cs : Array Value) (X : World) : Prop := X.heap[B]? = some (.cells cs 62 (0, 0))
theorem OB.box {B : Nat} {cs : Array Value} {X : World} (h : OB B cs X) : Box B cs X := fun i x hx => by
  simp only [World.cell?, show X.heap[B]? = _ from h]; exact hx
theorem OB.frozen {B : Nat} {cs : Array Value} {X : World} (h : OB B cs X) (i : Nat) : X.frozen? ⟨B, i, none⟩ = false := by
  simp [World.frozen?, show X.heap[B]? = _ from h]
theorem OB.new (w : World) (cs : Array Value) : OB w.heap.size cs (w.alloc (.cells cs 62)) := World.alloc_heap_new w _
theorem OB.set {B : Nat} {cs : Array Value} {X : World} (h : OB B cs X) (i : Nat) (v : Value) : OB B (cs.setIfInBounds i v) (X.setCell ⟨B, i, none⟩ v) := by
  obtain ⟨hlt, hk⟩ := Array.getElem?_eq_some_iff.1 h
  show (X.heap.modify B _)[B]? = _
  rw [Array.getElem?_eq_getElem (by rw [Array.size_modify]; exact hlt), Array.getElem_modify_self, hk]
  rfl
theorem OB.put {B : Nat} {X : World} {a0 a1 a2 a3 : Value} (h : OB B #[a0, a1, a2, a3] X) (v0 v1 v2 v3 : Value) :
    ∃ Y, (((X.setCell ⟨B, 0, none⟩ v0).setCell ⟨B, 1, none⟩ v1).setCell ⟨B, 2, none⟩ v2).setCell ⟨B, 3, none⟩ v3 = Y ∧
      OB B #[v0, v1, v2, v3] Y ∧ (∀ S : Nat → Prop, ¬ S B → Keep S X Y) ∧ ∀ M, M ≤ B → Below M X Y := by
  have h8 := (((h.set 0 v0).set 1 v1).set 2 v2).set 3 v3
  simp only [List.setIfInBounds_toArray, List.set_cons_zero, List.set_cons_succ] at h8
  refine ⟨_, rfl, h8, fun S hS => ?_, fun M hM => ?_⟩
  · exact (Keep.setCell _ _ _ hS).trans ((Keep.setCell _ _ _ hS).trans ((Keep.setCell _ _ _ hS).trans (Keep.setCell _ _ _ hS)))
  · exact ((((Below.refl M X).setCell (p := ⟨B, 0, none⟩) hM v0).setCell (p := ⟨B, 1, none⟩) hM v1).setCell (p := ⟨B, 2, none⟩) hM v2).setCell (p := ⟨B, 3, none⟩) hM v3
theorem size_org : (Tryz.prog.info? 62).map (·.size) = some 4 := by kernel_rfl
theorem ret_org {fn : Func} {p : Tmp} (h : fn.results = #[.cell p 62]) (tmps : Array Value) (w : World) (B : Nat) (cs : Array Value) (hp : tmps.getD p undef = .pointer (some ⟨B, 0, none⟩)) (hU : OB B cs w) (hs : cs.size = 4) :
    (results fn tmps).run Tryz.prog w = .ok (.agg cs) w :=
  results_cell_row h tmps w B _ cs (0, 0) _ hp hU Tryz.underlying62 rfl (by rw [size_org, hs])
theorem conv_back (w : World) (s : ByteArray) : (convert 9 29 (.string s)).run Tryz.prog w = .ok (.slice (some ⟨w.heap.size, 0, none⟩) s.size (grownCap w s.size 0 5)) (Lib.bytesWorld w 5 s) :=
  Lib.run_convert_string_bytes w 9 29 5 s Tryz.underlying9 Tryz.underlying29 Tryz.underlying5
theorem conv_new (w : World) (l : List UInt8) (hl : l.length ≤ 1099511627776) : ∃ c W, (convert 9 29 (.string ⟨l.toArray⟩)).run Tryz.prog w = .ok (.slice (some ⟨w.heap.size, 0, none⟩) l.length c) W ∧
    By W (.slice (some ⟨w.heap.size, 0, none⟩) l.length c) l ∧ Below w.heap.size w W ∧ W.heap.size = w.heap.size + 1 := by
  refine ⟨_, _, conv_back w ⟨l.toArray⟩, ?_, ⟨rfl, rfl, rfl, by rw [Lib.bytesWorld_size]; omega, fun k hk => Lib.bytesWorld_at_old w _ _ k hk⟩, Lib.bytesWorld_size w _ _⟩
  refine By.of rfl (grownCap_ge w _ _ _) (grownCap_le_maxLen w _ 0 _ (by unfold maxLen; show l.length ≤ _; omega)) (fun h => by cases h) ?_
  exact fun _ => ⟨w.heap.size, 0, rfl, fun i hi => by
    rw [numsL_getD _ i hi, Nat.zero_add]
    exact Lib.bytesWorld_cell w _ ⟨l.toArray⟩ i hi⟩
set_option maxRecDepth 100000 in
set_option maxHeartbeats 8000000 in
theorem Of_any (u : U) (v : Value) (w : World) (h : UrlIn w v u) :
    Calls Tryz.prog 21 #[v] w fun e w' => e = .returned (orgV u.scheme u.host u.port 0) ∧ Below w.heap.size w w' := by
  obtain ⟨q0, n0, c0, q1, n1, c1, q3, n3, c3, q4, n4, c4, q5, n5, c5, rfl, h0, h1, -, -, -⟩ := h
  obtain ⟨X, hX⟩ : ∃ X, (w.alloc (.cells #[.slice q0 n0 c0, .slice q1 n1 c1, .int .i64 u.port, .slice q3 n3 c3, .slice q4 n4 c4, .slice q5 n5 c5, .bool u.hq, .bool u.hf] 33)).alloc (.cells #[.string ⟨#[]⟩, .string ⟨#[]⟩, .int .i64 0, .int .i64 0] 62) = X := ⟨_, rfl⟩
  have B1 := (Below.refl _ w).alloc (Nat.le_refl _) (.cells #[.slice q0 n0 c0, .slice q1 n1 c1, .int .i64 u.port, .slice q3 n3 c3, .slice q4 n4 c4, .slice q5 n5 c5, .bool u.hq, .bool u.hf] 33)
  have B2 : Below w.heap.size w X := by rw [← hX]; exact B1.alloc B1.size _
  have hb : Box w.heap.size #[.slice q0 n0 c0, .slice q1 n1 c1, .int .i64 u.port, .slice q3 n3 c3, .slice q4 n4 c4, .slice q5 n5 c5, .bool u.hq, .bool u.hf] X := by rw [← hX]; exact (Box.new w _ _).on ((Below.refl _ _).alloc (Nat.le_refl _) _)
  have hO : OB (w.heap.size + 1) #[.string ⟨#[]⟩, .string ⟨#[]⟩, .int .i64 0, .int .i64 0] X := by
    have := OB.new (w.alloc (.cells #[.slice q0 n0 c0, .slice q1 n1 c1, .int .i64 u.port, .slice q3 n3 c3, .slice q4 n4 c4, .slice q5 n5 c5, .bool u.hq, .bool u.hf] 33)) #[.string ⟨#[]⟩, .string ⟨#[]⟩, .int .i64 0, .int .i64 0]
    rw [World.size_alloc] at this
    rw [← hX]; exact this
  have k0 := conv_bytes (c := c0) (h0.on B2).at.2.2.2.2 (h0.on B2).at.1
  have k1 := conv_bytes (c := c1) (h1.on B2).at.2.2.2.2 (h1.on B2).at.1
  have b0 := hb 0 _ rfl
  have b1 := hb 1 _ rfl
  have b2 := hb 2 _ rfl
  have z0 := hO.box 0 _ rfl
  have z1 := hO.box 1 _ rfl
  have z2 := hO.box 2 _ rfl
  have z3 := hO.box 3 _ rfl
  have f0 := hO.frozen 0
  have f1 := hO.frozen 1
  have f2 := hO.frozen 2
  have f3 := hO.frozen 3
  clear h0 h1 B1 hb
  have HX := Lib.hid hX
  clear hX
  go_enter Tryz.func21, Tryz.ntmps21
  go_wp2_with fail
  rw [HX.out]
  go_wp2
  rw [k0]
  go_wp2
  obtain ⟨Y, hY, hU, hkY, hbY⟩ := OB.put hO (.string ⟨u.scheme.toArray⟩) (.string ⟨u.host.toArray⟩) (.int .i64 u.port) (.int .i64 0)
  rw [hY]
  (try simp only [Exit.inBlock, Exit.then])
  refine bodyPost_ret (ret_org rfl _ _ (w.heap.size + 1) _ rfl hU rfl) rfl ?_
  exact ⟨rfl, B2.trans (hbY _ (Nat.le_succ _))⟩
theorem str_app (a b : List UInt8) : (⟨a.toArray⟩ ++ ⟨b.toArray⟩ : ByteArray) = ⟨(a ++ b).toArray⟩ := by
  apply ByteArray.ext; simp
theorem Itoa_any (n : Nat) (w : World) (hn : n ≤ 9223372036854775807) (hG : Gl w) :
    Calls Tryz.prog 125 #[.int .i64 (n : Int)] w fun e w' => e = .returned (.string ⟨(digL n).toArray⟩) ∧ Below w.heap.size w w' := by
  refine (Tryz.strconv_Itoa (n : Int) (by omega) (by omega) w hG.2).mono ?_
  rintro e w' ⟨rfl, k, os, rfl⟩
  refine ⟨by rw [Lib.itoa_nonneg, dig_dec10], ?_⟩
  have h := Url.below_drewN w k
  refine ⟨h.os, h.tape, h.output, ?_, fun j hj => ?_⟩
  · have := h.size; unfold Sort.grow; simp only [Array.size_append]; omega
  · unfold Sort.grow
    show ((w.drewN k).heap ++ os)[j]? = _
    have hlt : j < (w.drewN k).heap.size := Nat.lt_of_lt_of_le hj h.size
    rw [Array.getElem?_append_left hlt]
    exact h.block j hj
set_option maxRecDepth 100000 in
set_option maxHeartbeats 8000000 in
theorem Text_server (u : U) (hok : Ok u) (w : World) (hG : Gl w) :
    Calls Tryz.prog 76 #[orgV u.scheme u.host u.port 0] w fun e w' => e = .returned (.string ⟨(placeU u).toArray⟩) ∧ Below w.heap.size w w' := by
  unfold orgV
  obtain ⟨X, hX⟩ : ∃ X, w.alloc (.cells #[.string ⟨u.scheme.toArray⟩, .string ⟨u.host.toArray⟩, .int .i64 u.port, .int .i64 0] 62) = X := ⟨_, rfl⟩
  have B1 : Below w.heap.size w X := by rw [← hX]; exact (Below.refl _ w).alloc (Nat.le_refl _) _
  have hO : OB w.heap.size #[.string ⟨u.scheme.toArray⟩, .string ⟨u.host.toArray⟩, .int .i64 u.port, .int .i64 0] X := by rw [← hX]; exact OB.new w _
  have hsne : ¬ u.scheme = [] := by rcases hok.scheme with h | h <;> (rw [h]; decide)
  have HLS := Lib.hid (low_scheme u hok)
  have hsl : u.scheme.length ≤ 5 := by rcases hok.scheme with h | h <;> (rw [h]; decide)
  have hp2 := hok.port2
  have hhl : u.host.length ≤ 253 := by
    have h := hok.host
    unfold Host.parseE at h
    split at h
    · cases h
    · omega
  have hdl := dig_len u.port hp2
  have l1 : u.scheme.length ≤ 9223372036854775804 := by omega
  have l2 : u.scheme.length + 3 + u.host.length ≤ 9223372036854775807 := by omega
  have l3 : u.scheme.length + 3 + u.host.length ≤ 9223372036854775806 := by omega
  have l4 : u.scheme.length + 3 + u.host.length + 1 + (digL u.port).length ≤ 9223372036854775807 := by omega
  have HPT := Lib.hid (show placeU u = u.scheme ++ [58, 47, 47] ++ u.host ++ (if u.port = ownP u.scheme then [] else 58 :: digL u.port) from rfl)
  have HX := Lib.hid hX
  have HG := Lib.hid hG
  clear hX hok hG
  generalize placeU u = PL at *
  generalize u.scheme = S at *
  generalize u.host = H at *
  generalize u.port = p at *
  go_enter Tryz.func76, Tryz.ntmps76
  go_wp2_with fail
  rw [HX.out]
  refine pregion_any (Box w.heap.size #[.string ⟨S.toArray⟩, .string ⟨H.toArray⟩, .int .i64 p, .int .i64 0]) (by kernel_rfl) ?_
  have hS0 : Box w.heap.size #[.string ⟨S.toArray⟩, .string ⟨H.toArray⟩, .int .i64 p, .int .i64 0] X.drew := hO.box
  have hBd : Below w.heap.size w X.drew := B1.drew
  clear hO B1 HX
  generalize X.drew = Y at *
  refine wpAnyH_take (i := 0) (v := (.pointer (some ⟨w.heap.size, 2, none⟩))) rfl (by kernel_rfl) (by kernel_rfl) (by kernel_rfl) (fun _ _ _ h => h) (.inl ⟨by kernel_rfl, ?_⟩) hS0 ?_
  · rintro w h; go_simp <;> omega
  refine plist #[true, false, false, false, false, false, false, false] (by kernel_rfl) ?_
  refine wpAnyH_take (i := 1) (v := (.int .i64 p)) rfl (by kernel_rfl) (by kernel_rfl) (by kernel_rfl) (fun _ _ _ h => h) (.inl ⟨by kernel_rfl, ?_⟩) hS0 ?_
  · rintro w h; have h' := h 2 _ rfl; go_simp <;> omega
  refine plist #[true, true, false, false, false, false, false, false] (by kernel_rfl) ?_
  refine wpAnyH_take (i := 2) (v := (.pointer (some ⟨w.heap.size, 0, none⟩))) rfl (by kernel_rfl) (by kernel_rfl) (by kernel_rfl) (fun _ _ _ h => h) (.inl ⟨by kernel_rfl, ?_⟩) hS0 ?_
  · rintro w h; go_simp <;> omega
  refine plist #[true, true, true, false, false, false, false, false] (by kernel_rfl) ?_
  refine wpAnyH_take (i := 3) (v := (.string ⟨S.toArray⟩)) rfl (by kernel_rfl) (by kernel_rfl) (by kernel_rfl) (fun _ _ _ h => h) (.inl ⟨by kernel_rfl, ?_⟩) hS0 ?_
  · rintro w h; have h' := h 0 _ rfl; go_simp <;> omega
  refine plist #[true, true, true, true, false, false, false, false] (by kernel_rfl) ?_
  obtain ⟨c, Z, hrun, hby, hbel, -⟩ := conv_new Y S (by omega)
  refine pone 4 (by kernel_rfl) rfl fun K hK => ?_
  go_simp
  have hS1 := hS0.on hbel
  have hB1 := hBd.trans (hbel.mono hBd.size)
  refine hK _ _ hS1 ?_
  clear hK K
  refine plist #[true, true, true, true, true, false, false, false] (by kernel_rfl) ?_
  have con := Own_any (some ⟨Y.heap.size, 0, none⟩) S.length c S Z rfl (by omega) hby.at.2.2.2.2
  rw [HLS.out] at con
  refine pone 5 (by kernel_rfl) rfl fun K hK => ?_
  go_simp
  refine con.mono ?_
  rintro e V ⟨rfl, hb⟩
  have hS2 := hS1.on hb
  have hB2 := hB1.trans (hb.mono hB1.size)
  clear con hS0 hS1 hbel hby hrun hb hBd hB1
  refine hK _ _ hS2 ?_
  clear hK K
  refine plist #[true, true, true, true, true, true, false, false] (by kernel_rfl) ?_
  by_cases hpo : p = ownP S
  · have e5 : ((p : Int) == (ownP S : Int)) = true := by rw [beq_iff_eq]; omega
    have HR := Lib.hid (show PL = S ++ [58, 47, 47] ++ H by rw [HPT.out, if_pos hpo, List.append_nil])
    refine pone 6 (by kernel_rfl) rfl fun K hK => ?_
    go_simp
    refine hK _ _ hS2 ?_
    clear hK K
    refine plist #[true, true, true, true, true, true, true, false] (by kernel_rfl) ?_
    refine pone 7 (by kernel_rfl) rfl fun K hK => ?_
    go_simp
    refine hK _ _ hS2 ?_
    clear hK K
    refine pdone (by kernel_rfl) ?_ _
    have c0 := hS2 0 _ rfl
    have c1 := hS2 1 _ rfl
    clear hpo
    go_wp2
    go_ret
    exact ⟨congrArg (fun s => Ending.returned (Value.string s)) (by rw [HR.out, ← str_app, ← str_app]), hB2⟩
  · have e5 : ((p : Int) == (ownP S : Int)) = false := by rw [beq_eq_false_iff_ne]; omega
    have HR := Lib.hid (show PL = S ++ [58, 47, 47] ++ H ++ [58] ++ digL p by rw [HPT.out, if_neg hpo]; simp)
    refine pone 6 (by kernel_rfl) rfl fun K hK => ?_
    go_simp
    refine hK _ _ hS2 ?_
    clear hK K
    refine plist #[true, true, true, true, true, true, true, false] (by kernel_rfl) ?_
    refine pone 7 (by kernel_rfl) rfl fun K hK => ?_
    go_simp
    refine hK _ _ hS2 ?_
    clear hK K
    refine pdone (by kernel_rfl) ?_ _
    clear hpo
    go_wp2_with fail
    refine pregion_any (Box w.heap.size #[.string ⟨S.toArray⟩, .string ⟨H.toArray⟩, .int .i64 p, .int .i64 0]) (by kernel_rfl) ?_
    have hS3 : Box w.heap.size #[.string ⟨S.toArray⟩, .string ⟨H.toArray⟩, .int .i64 p, .int .i64 0] V.drew := hS2
    have hB3 : Below w.heap.size w V.drew := hB2.drew
    clear hS2 hB2 e5
    generalize V.drew = T at *
    refine wpAnyH_take (i := 0) (v := (.pointer (some ⟨w.heap.size, 0, none⟩))) rfl (by kernel_rfl) (by kernel_rfl) (by kernel_rfl) (fun _ _ _ h => h) (.inl ⟨by kernel_rfl, ?_⟩) hS3 ?_
    · rintro w h; go_simp <;> omega
    refine plist #[true, false, false, false, false, false, false, false, false, false, false, false] (by kernel_rfl) ?_
    refine wpAnyH_take (i := 1) (v := (.string ⟨S.toArray⟩)) rfl (by kernel_rfl) (by kernel_rfl) (by kernel_rfl) (fun _ _ _ h => h) (.inl ⟨by kernel_rfl, ?_⟩) hS3 ?_
    · rintro w h; have h' := h 0 _ rfl; go_simp <;> omega
    refine plist #[true, true, false, false, false, false, false, false, false, false, false, false] (by kernel_rfl) ?_
    refine wpAnyH_take (i := 2) (v := (.string (⟨S.toArray⟩ ++ ⟨#[58, 47, 47]⟩))) rfl (by kernel_rfl) (by kernel_rfl) (by kernel_rfl) (fun _ _ _ h => h) (.inl ⟨by kernel_rfl, ?_⟩) hS3 ?_
    · rintro w h; go_simp <;> omega
    refine plist #[true, true, true, false, false, false, false, false, false, false, false, false] (by kernel_rfl) ?_
    refine wpAnyH_take (i := 3) (v := (.pointer (some ⟨w.heap.size, 1, none⟩))) rfl (by kernel_rfl) (by kernel_rfl) (by kernel_rfl) (fun _ _ _ h => h) (.inl ⟨by kernel_rfl, ?_⟩) hS3 ?_
    · rintro w h; go_simp <;> omega
    refine plist #[true, true, true, true, false, false, false, false, false, false, false, false] (by kernel_rfl) ?_
    refine wpAnyH_take (i := 4) (v := (.string ⟨H.toArray⟩)) rfl (by kernel_rfl) (by kernel_rfl) (by kernel_rfl) (fun _ _ _ h => h) (.inl ⟨by kernel_rfl, ?_⟩) hS3 ?_
    · rintro w h; have h' := h 1 _ rfl; go_simp <;> omega
    refine plist #[true, true, true, true, true, false, false, false, false, false, false, false] (by kernel_rfl) ?_
    refine wpAnyH_take (i := 5) (v := (.string (⟨S.toArray⟩ ++ ⟨#[58, 47, 47]⟩ ++ ⟨H.toArray⟩))) rfl (by kernel_rfl) (by kernel_rfl) (by kernel_rfl) (fun _ _ _ h => h) (.inl ⟨by kernel_rfl, ?_⟩) hS3 ?_
    · rintro w h; go_simp <;> omega
    refine plist #[true, true, true, true, true, true, false, false, false, false, false, false] (by kernel_rfl) ?_
    refine wpAnyH_take (i := 6) (v := (.string (⟨S.toArray⟩ ++ ⟨#[58, 47, 47]⟩ ++ ⟨H.toArray⟩ ++ ⟨#[58]⟩))) rfl (by kernel_rfl) (by kernel_rfl) (by kernel_rfl) (fun _ _ _ h => h) (.inl ⟨by kernel_rfl, ?_⟩) hS3 ?_
    · rintro w h; go_simp <;> omega
    refine plist #[true, true, true, true, true, true, true, false, false, false, false, false] (by kernel_rfl) ?_
    refine wpAnyH_take (i := 7) (v := (.pointer (some ⟨w.heap.size, 2, none⟩))) rfl (by kernel_rfl) (by kernel_rfl) (by kernel_rfl) (fun _ _ _ h => h) (.inl ⟨by kernel_rfl, ?_⟩) hS3 ?_
    · rintro w h; go_simp <;> omega
    refine plist #[true, true, true, true, true, true, true, true, false, false, false, false] (by kernel_rfl) ?_
    refine wpAnyH_take (i := 8) (v := (.int .i64 p)) rfl (by kernel_rfl) (by kernel_rfl) (by kernel_rfl) (fun _ _ _ h => h) (.inl ⟨by kernel_rfl, ?_⟩) hS3 ?_
    · rintro w h; have h' := h 2 _ rfl; go_simp <;> omega
    refine plist #[true, true, true, true, true, true, true, true, true, false, false, false] (by kernel_rfl) ?_
    have con := Itoa_any p T (by omega) (HG.out.on hB3)
    refine pone 9 (by kernel_rfl) rfl fun K hK => ?_
    go_simp
    refine con.mono ?_
    rintro e V' ⟨rfl, hb⟩
    have hS4 := hS3.on hb
    have hB4 := hB3.trans (hb.mono hB3.size)
    clear con hS3 hb hB3
    refine hK _ _ hS4 ?_
    clear hK K
    refine plist #[true, true, true, true, true, true, true, true, true, true, false, false] (by kernel_rfl) ?_
    refine pone 10 (by kernel_rfl) rfl fun K hK => ?_
    go_simp
    rw [if_neg (by omega), Oper.upon_value]
    refine hK _ _ hS4 ?_
    clear hK K
    refine plist #[true, true, true, true, true, true, true, true, true, true, true, false] (by kernel_rfl) ?_
    refine pone 11 (by kernel_rfl) rfl fun K hK => ?_
    go_simp
    refine hK _ _ hS4 ?_
    clear hK K
    refine pdone (by kernel_rfl) ?_ _
    clear hS4
    go_wp2
    go_ret
    exact ⟨congrArg (fun s => Ending.returned (Value.string s)) (by rw [HR.out, ← str_app, ← str_app, ← str_app, ← str_app]), hB4⟩
end Go.Proofs.YtniehbjoogaccaaGreatDoor.Org
namespace Go.Proofs.YtniehbjoogaccaaGreatDoor.MapO
open Go.RowKit Go.MapKept
set_option linter.unusedVariables false
abbrev κ := List UInt8 × List UInt8 × Nat
def keyV (k : κ) : Value := Org.orgV k.1 k.2.1 k.2.2 0
theorem keyV_inj {a b : κ} (h : keyV a = keyV b) : a = b := by
  obtain ⟨a1, a2, a3⟩ := a
  obtain ⟨b1, b2, b3⟩ := b
  unfold keyV Org.orgV at h
  have h1 := Value.agg.inj h
  simp only [Array.mk.injEq, List.cons.injEq, Value.string.injEq, Value.int.injEq, ByteArray.mk.injEq, and_true, true_and] at h1
  obtain ⟨e1, e2, e3⟩ := h1
  have e3' : a3 = b3 := by omega
  rw [e1, e2, e3']
structure KeyKit (P : Program) (K : TypeId) : Prop where
  und : ∃ fs, P.underlying K = some (.struct fs)
  chk : ∀ e k w, (Instr.checkKey e 10000 K (keyV k)).run P w = .ok () w
  eql : ∀ a b w, (Op.equal K (keyV a) (keyV b)).run P w = .ok (decide (a = b)) w
  bits : ∀ k, Instr.sameBits 10000 (keyV k) (keyV k) = true
def Holds (es : Array MapEntry) (ks : List κ) (f : κ → Value) : Prop := es.toList.map (fun e => (e.key, e.val)) = ks.map fun k => (keyV k, f k)
theorem Holds.at {es : Array MapEntry} {ks : List κ} {f : κ → Value} (h : Holds es ks f) {j : Nat} {e : MapEntry} (he : es[j]? = some e) : ∃ k, ks[j]? = some k ∧ e.key = keyV k ∧ e.val = f k := by
  have h1 := congrArg (fun l => l[j]?) h
  simp only [List.getElem?_map, Array.getElem?_toList, he, Option.map_some] at h1
  cases hk : ks[j]? with
  | none => rw [hk] at h1; cases h1
  | some k =>
    rw [hk] at h1
    have h2 := Option.some.inj h1
    exact ⟨k, rfl, congrArg Prod.fst h2, congrArg Prod.snd h2⟩
theorem Holds.keys {es : Array MapEntry} {ks : List κ} {f : κ → Value} (h : Holds es ks f) : es.toList.map (·.key) = ks.map keyV := by
  have h1 := congrArg (List.map Prod.fst) h
  simpa [List.map_map, Function.comp_def] using h1
theorem Holds.size {es : Array MapEntry} {ks : List κ} {f : κ → Value} (h : Holds es ks f) : es.size = ks.length := by
  have h1 := congrArg List.length h
  simpa using h1
theorem nodup_of_map {α β : Type} (f : α → β) : ∀ l : List α, (l.map f).Nodup → l.Nodup
  | [], _ => List.nodup_nil
  | x :: l, h => by
    rw [List.map_cons, List.nodup_cons] at h
    rw [List.nodup_cons]
    exact ⟨fun hx => h.1 (List.mem_map.2 ⟨x, hx, rfl⟩), nodup_of_map f l h.2⟩
theorem Holds.nodup {es : Array MapEntry} {clock : Nat} {ks : List κ} {f : κ → Value} (h : Holds es ks f) (hs : Stamped es clock) : ks.Nodup := by
  have h3 := hs.2.2
  rw [h.keys] at h3
  exact nodup_of_map keyV ks h3
def MapAt (w : World) (b : Nat) (ks : List κ) (f : κ → Value) : Prop := ∃ es clock, w.heap[b]? = some (.map es clock) ∧ Stamped es clock ∧ Holds es ks f
theorem MapAt.lt {w : World} {b : Nat} {ks : List κ} {f : κ → Value} (h : MapAt w b ks f) : b < w.heap.size := by
  obtain ⟨es, clock, hb, _⟩ := h
  exact (Array.getElem?_eq_some_iff.1 hb).1
theorem MapAt.nodup {w : World} {b : Nat} {ks : List κ} {f : κ → Value} (h : MapAt w b ks f) : ks.Nodup := by
  obtain ⟨es, clock, _, hs, hH⟩ := h
  exact hH.nodup hs
theorem MapAt.keep {w w' : World} {b : Nat} {ks : List κ} {f : κ → Value} {S : Nat → Prop} (h : MapAt w b ks f) (hk : Keep S w w') (hb : S b) : MapAt w' b ks f := by
  obtain ⟨es, clock, h1, h2, h3⟩ := h
  exact ⟨es, clock, hk.heap hb h1, h2, h3⟩
theorem MapAt.on {w w' : World} {b : Nat} {ks : List κ} {f : κ → Value} (h : MapAt w b ks f) (hb : Below w.heap.size w w') : MapAt w' b ks f := h.keep (Keep.of_below hb) h.lt
theorem MapAt.congr {w : World} {b : Nat} {ks : List κ} {f g : κ → Value} (h : MapAt w b ks f) (hg : ∀ k ∈ ks, f k = g k) : MapAt w b ks g := by
  obtain ⟨es, clock, h1, h2, h3⟩ := h
  refine ⟨es, clock, h1, h2, h3.trans (List.map_congr_left fun k hk => by rw [hg k hk])⟩
theorem MapAt.new (w : World) (f : κ → Value) : MapAt (w.alloc (.map #[] 0)) w.heap.size [] f := ⟨#[], 0, (MapKept.heap_alloc w _).1, stamped_empty 0, rfl⟩
section
variable {P : Program} {K : TypeId}
theorem asking (kk : KeyKit P K) (k : κ) (w : World) : ∀ (es : List MapEntry) (ks : List κ) (f : κ → Value) (i : Nat), es.map (fun e => (e.key, e.val)) = ks.map (fun k => (keyV k, f k)) →
    ((Instr.findAsking K (keyV k) es i).run P w = .ok none w ∧ k ∉ ks) ∨ ∃ j e, (Instr.findAsking K (keyV k) es i).run P w = .ok (some (i + j, f k)) w ∧ es[j]? = some e ∧ e.key = keyV k ∧ ks[j]? = some k
  | [], [], _, _, _ => .inl ⟨rfl, by simp⟩
  | [], _ :: _, _, _, h => by simp at h
  | _ :: _, [], _, _, h => by simp at h
  | e :: es, y :: ks, f, i, h => by
    simp only [List.map_cons, List.cons.injEq, Prod.mk.injEq] at h
    obtain ⟨⟨e1, e2⟩, h2⟩ := h
    have hq := kk.eql k y w
    by_cases hk : k = y
    · subst hk
      refine .inr ⟨0, e, ?_, rfl, e1, rfl⟩
      simp only [Instr.findAsking, e1, Sem.run_bind, hq, Result.andThen, decide_true, if_true, Nat.add_zero, e2]
      rfl
    · have h0 : (Instr.findAsking K (keyV k) (e :: es) i).run P w = (Instr.findAsking K (keyV k) es (i + 1)).run P w := by
        simp only [Instr.findAsking, e1, Sem.run_bind, hq, Result.andThen, decide_eq_false hk, Bool.false_eq_true, if_false]
      rw [h0]
      rcases asking kk k w es ks f (i + 1) h2 with ⟨h3, h4⟩ | ⟨j, e', h3, h4, h5, h6⟩
      · exact .inl ⟨h3, by simp [hk, h4]⟩
      · exact .inr ⟨j + 1, e', by rw [h3, show i + 1 + j = i + (j + 1) by omega], by simpa using h4, h5, by simpa using h6⟩
theorem find_run (kk : KeyKit P K) (k : κ) (w : World) (es : List MapEntry) : (Instr.findKey K (keyV k) es).run P w = (Instr.findAsking K (keyV k) es 0).run P w := by
  obtain ⟨fs, hu⟩ := kk.und
  cases es with
  | nil => simp [Instr.findKey, run_underlying hu, Instr.findNow, Instr.findAsking, Result.andThen]
  | cons e es =>
    have : Instr.findNow (.struct fs) (keyV k) (e :: es) 0 = none := by
      unfold Instr.findNow
      rw [show Instr.sameNow (.struct fs) (keyV k) e.key = none from by unfold Instr.sameNow; rfl]
    simp [Instr.findKey, run_underlying hu, this, Result.andThen]
theorem find_key (kk : KeyKit P K) {es : Array MapEntry} {ks : List κ} {f : κ → Value} (h : Holds es ks f) (k : κ) (w : World) :
    ((Instr.findKey K (keyV k) es.toList).run P w = .ok none w ∧ k ∉ ks ∧ ∀ x ∈ es.toList, x.key ≠ keyV k) ∨ ∃ j e, (Instr.findKey K (keyV k) es.toList).run P w = .ok (some (j, f k)) w ∧ es[j]? = some e ∧ e.key = keyV k ∧ ks[j]? = some k := by
  rcases asking kk k w es.toList ks f 0 h with ⟨h1, h2⟩ | ⟨j, e, h1, h2, h3, h4⟩
  · refine .inl ⟨(find_run kk k w _).trans h1, h2, fun x hx hxk => h2 ?_⟩
    have hx : x.key ∈ es.toList.map (·.key) := List.mem_map.2 ⟨x, hx, rfl⟩
    rw [h.keys, hxk] at hx
    obtain ⟨y, hy, e⟩ := List.mem_map.1 hx
    exact keyV_inj e ▸ hy
  · exact .inr ⟨j, e, by rw [find_run kk, h1, Nat.zero_add], by simpa using h2, h3, h4⟩
theorem key_stays (kk : KeyKit P K) (k : κ) (w : World) : (Instr.keyThatStays (keyV k) (keyV k)).run P w = .ok (keyV k) w := by
  simp [Instr.keyThatStays, kk.bits k]
end
section
variable {P : Program} {w : World} {T K E : TypeId} {b : Nat} {ks : List κ} {f : κ → Value}
theorem look (h : MapAt w b ks f) (hT : P.underlying T = some (.map K E)) (kk : KeyKit P K) {z : Value} (hz : (zeroValue E).run P w = .ok z w) (k : κ) :
    (Instr.lookup T (.map (some b)) (keyV k) false).run P w = .ok (if k ∈ ks then f k else z) w := by
  obtain ⟨es, clock, hb, hs, hH⟩ := h
  rcases find_key kk hH k w with ⟨h1, h2, _⟩ | ⟨j, e, h1, h2, h3, h4⟩
  · simp [Instr.lookup, run_underlying hT, MapKept.run_getObj_map hb, kk.chk, h1, hz, h2, Result.andThen]
  · have hm : k ∈ ks := List.mem_of_getElem? h4
    simp [Instr.lookup, run_underlying hT, MapKept.run_getObj_map hb, kk.chk, h1, hm, Result.andThen]
theorem look_nil (hT : P.underlying T = some (.map K E)) (kk : KeyKit P K) {z : Value} (hz : (zeroValue E).run P w = .ok z w) (k : κ) :
    (Instr.lookup T (.map none) (keyV k) false).run P w = .ok z w := by
  simp [Instr.lookup, run_underlying hT, kk.chk, find_run kk k w [], show (Instr.findAsking K (keyV k) [] 0).run P w = .ok none w from rfl, hz, Result.andThen]
theorem holds_put {es : Array MapEntry} {clock : Nat} (hH : Holds es ks f) (hs : Stamped es clock) {j : Nat} {k : κ} {e : MapEntry} (hj : es[j]? = some e) (hkj : ks[j]? = some k) (v : Value) :
    Holds (es.modify j fun e => { e with key := keyV k, val := v }) ks (fun x => if x = k then v else f x) := by
  have hnd := hH.nodup hs
  unfold Holds
  apply List.ext_getElem?
  intro i
  simp only [List.getElem?_map, Array.getElem?_toList, Array.getElem?_modify]
  by_cases hij : j = i
  · subst hij
    simp [hj, hkj]
  · simp only [hij, if_false]
    have h1 := congrArg (fun l => l[i]?) hH
    simp only [List.getElem?_map, Array.getElem?_toList] at h1
    rw [h1]
    cases hi : ks[i]? with
    | none => rfl
    | some x =>
      have hne : x ≠ k := fun e => by
        subst e
        obtain ⟨l1, m1⟩ := List.getElem?_eq_some_iff.1 hi
        obtain ⟨l2, m2⟩ := List.getElem?_eq_some_iff.1 hkj
        exact hij ((List.getElem_inj hnd).1 (m2.trans m1.symm))
      simp [hne]
theorem put (h : MapAt w b ks f) (hT : P.underlying T = some (.map K E)) (kk : KeyKit P K) (k : κ) (v : Value) :
    ∃ w', (Instr.mapUpdate T (.map (some b)) (keyV k) v).run P w = .ok () w' ∧ MapAt w' b (if k ∈ ks then ks else ks ++ [k]) (fun x => if x = k then v else f x) ∧ (∀ S : Nat → Prop, ¬ S b → Keep S w w') ∧ w'.heap.size = w.heap.size := by
  obtain ⟨es, clock, hb, hs, hH⟩ := h
  have hlt : b < w.heap.size := (Array.getElem?_eq_some_iff.1 hb).1
  have hkeep : ∀ o : Obj, ∀ S : Nat → Prop, ¬ S b → Keep S w { w with heap := w.heap.setIfInBounds b o } := fun o S hS =>
    ⟨rfl, rfl, rfl, by simp, fun i _ hi => (heap_set hb).2 i (fun e => hS (e ▸ hi))⟩
  rcases find_key kk hH k w with ⟨h1, h2, h3⟩ | ⟨j, e, h1, h2, h3, h4⟩
  · refine ⟨{ w with heap := w.heap.setIfInBounds b (.map (es.push { key := keyV k, val := v, born := clock }) (clock + 1)) }, ?_, ⟨_, _, (heap_set hb).1, stamped_push hs h3, ?_⟩, hkeep _, by simp⟩
    · simp [Instr.mapUpdate, run_underlying hT, MapKept.run_getObj_map hb, kk.chk, h1, MapKept.run_setObj_map _ hb, Result.andThen]
    · rw [if_neg h2]
      unfold Holds
      rw [Array.toList_push, List.map_append, List.map_append, hH]
      congr 1
      · refine List.map_congr_left fun x hx => ?_
        show (keyV x, f x) = (keyV x, if x = k then v else f x)
        have hxk : ¬ x = k := fun e => h2 (by rw [← e]; exact hx)
        rw [if_neg hxk]
      · simp
  · have hm : k ∈ ks := List.mem_of_getElem? h4
    have hkey : ∀ e', es[j]? = some e' → ({ e' with key := keyV k, val := v } : MapEntry).key = e'.key := fun e' he' => by rw [h2] at he'; cases he'; exact h3.symm
    refine ⟨{ w with heap := w.heap.setIfInBounds b (.map (es.modify j fun e => { e with key := keyV k, val := v }) clock) }, ?_, ⟨_, _, (heap_set hb).1, stamped_modify hs _ _ (fun _ _ => rfl) (fun e' _ he' => hkey e' he'), ?_⟩, hkeep _, by simp⟩
    · simp [Instr.mapUpdate, run_underlying hT, MapKept.run_getObj_map hb, kk.chk, h1, h2, h3, key_stays kk, MapKept.run_setObj_map _ hb, Result.andThen]
    · rw [if_pos hm]
      exact holds_put hH hs h2 h4 v
theorem map_eraseIdx {α β : Type} (g : α → β) : ∀ (l : List α) (j : Nat), (l.eraseIdx j).map g = (l.map g).eraseIdx j
  | [], _ => rfl
  | _ :: _, 0 => rfl
  | x :: l, j + 1 => by rw [List.eraseIdx_cons_succ, List.map_cons, List.map_cons, List.eraseIdx_cons_succ, map_eraseIdx g l j]
theorem erase_filter : ∀ (l : List κ) (j : Nat) (k : κ), l.Nodup → l[j]? = some k → l.eraseIdx j = l.filter fun x => decide (x ≠ k)
  | [], j, k, _, h => by simp at h
  | x :: l, 0, k, hn, h => by
    simp at h; subst h
    rw [List.nodup_cons] at hn
    rw [List.eraseIdx_cons_zero, List.filter_cons_of_neg (by simp)]
    rw [List.filter_eq_self.2]
    intro y hy
    simp only [decide_eq_true_eq]
    exact fun e => hn.1 (e ▸ hy)
  | x :: l, j + 1, k, hn, h => by
    rw [List.nodup_cons] at hn
    have h' : l[j]? = some k := by simpa using h
    have hne : x ≠ k := fun e => hn.1 (e ▸ List.mem_of_getElem? h')
    rw [List.eraseIdx_cons_succ, List.filter_cons_of_pos (by simpa using hne), erase_filter l j k hn.2 h']
theorem del (h : MapAt w b ks f) (hT : P.underlying T = some (.map K E)) (kk : KeyKit P K) (ty : TypeId) (k : κ) :
    ∃ w', (Builtin.delete_ #[T, K] ty #[.map (some b), keyV k]).run P w = .ok (.tuple #[]) w' ∧ MapAt w' b (ks.filter fun x => decide (x ≠ k)) f ∧ (∀ S : Nat → Prop, ¬ S b → Keep S w w') ∧ w'.heap.size = w.heap.size := by
  obtain ⟨es, clock, hb, hs, hH⟩ := h
  have hkeep : ∀ o : Obj, ∀ S : Nat → Prop, ¬ S b → Keep S w { w with heap := w.heap.setIfInBounds b o } := fun o S hS =>
    ⟨rfl, rfl, rfl, by simp, fun i _ hi => (heap_set hb).2 i (fun e => hS (e ▸ hi))⟩
  rcases find_key kk hH k w with ⟨h1, h2, h3⟩ | ⟨j, e, h1, h2, h3, h4⟩
  · refine ⟨{ w with heap := w.heap.setIfInBounds b (.map es clock) }, ?_, ⟨_, _, (heap_set hb).1, hs, ?_⟩, hkeep _, by simp⟩
    · simp [Builtin.delete_, run_underlying hT, MapKept.run_getObj_map hb, kk.chk, h1, MapKept.run_setObj_map _ hb, Result.andThen]
    · rw [List.filter_eq_self.2 (fun x hx => by simp only [decide_eq_true_eq]; exact fun e => h2 (e ▸ hx))]
      exact hH
  · refine ⟨{ w with heap := w.heap.setIfInBounds b (.map (es.eraseIdxIfInBounds j) clock) }, ?_, ⟨_, _, (heap_set hb).1, stamped_erase hs j, ?_⟩, hkeep _, by simp⟩
    · simp [Builtin.delete_, run_underlying hT, MapKept.run_getObj_map hb, kk.chk, h1, MapKept.run_setObj_map _ hb, Result.andThen]
    · have hj := (Array.getElem?_eq_some_iff.1 h2).1
      have hl : (es.eraseIdxIfInBounds j).toList = es.toList.eraseIdx j := by
        unfold Array.eraseIdxIfInBounds
        rw [dif_pos hj, Array.toList_eraseIdx]
      unfold Holds
      rw [hl, map_eraseIdx, hH, ← map_eraseIdx, erase_filter ks j k (hH.nodup hs) h4]
def IterAt (w : World) (b r : Nat) (ks : List κ) (f : κ → Value) (left : List κ) : Prop := ∃ es clock since seen last, w.heap[b]? = some (.map es clock) ∧ Stamped es clock ∧ Holds es ks f ∧
  w.heap[r]? = some (.mapIter (some b) since seen last) ∧ (∀ x ∈ es.toList, x.born < since) ∧ since ≤ last ∧ since ≤ clock ∧ (es.toList.filter fun e => !seen.contains e.born).map (·.key) = left.map keyV
theorem IterAt.keep {w' : World} {r : Nat} {left : List κ} {S : Nat → Prop} (h : IterAt w b r ks f left) (hk : Keep S w w') (hb : S b) (hr : S r) : IterAt w' b r ks f left := by
  obtain ⟨es, clock, since, seen, last, h1, h2, h3, h4, h5⟩ := h
  exact ⟨es, clock, since, seen, last, hk.heap hb h1, h2, h3, hk.heap hr h4, h5⟩
theorem IterAt.map {r : Nat} {left : List κ} (h : IterAt w b r ks f left) : MapAt w b ks f := by
  obtain ⟨es, clock, since, seen, last, h1, h2, h3, _⟩ := h
  exact ⟨es, clock, h1, h2, h3⟩
def iterLeft (w : World) (b r : Nat) : Nat := match w.heap[b]?, w.heap[r]? with
  | some (.map es _), some (.mapIter _ _ seen _) => (es.toList.filter fun e => !seen.contains e.born).length
  | _, _ => 0
theorem IterAt.left_eq {r : Nat} {left : List κ} (h : IterAt w b r ks f left) : iterLeft w b r = left.length := by
  obtain ⟨es, clock, since, seen, last, h1, h2, h3, h4, h5, h6, h7, h8⟩ := h
  unfold iterLeft
  rw [h1, h4]
  have := congrArg List.length h8
  simpa using this
theorem range_map (h : MapAt w b ks f) (hT : P.underlying T = some (.map K E)) :
    ∃ w', (Instr.range T (.map (some b))).run P w = .ok (.pointer (some ⟨w.heap.size, 0, none⟩)) w' ∧ IterAt w' b w.heap.size ks f ks ∧ Below w.heap.size w w' ∧ w'.heap.size = w.heap.size + 1 := by
  obtain ⟨es, clock, hb, hs, hH⟩ := h
  have hlt : b < w.heap.size := (Array.getElem?_eq_some_iff.1 hb).1
  refine ⟨_, run_range_map w T K E b es clock hT hb, ⟨es, clock, clock, #[], clock, ((MapKept.heap_alloc w _).2 b hlt).trans hb, hs, hH, (MapKept.heap_alloc w _).1, hs.1, Nat.le_refl _, Nat.le_refl _, ?_⟩, (Below.refl _ _).alloc (Nat.le_refl _) _, by simp⟩
  rw [List.filter_eq_self.2 (fun x hx => by simp)]
  exact hH.keys
theorem born_key (es : List MapEntry) (hborn : (es.map (·.born)).Nodup) (hkey : (es.map (·.key)).Nodup) {x e : MapEntry} (hx : x ∈ es) (hm : e ∈ es) : x.born = e.born ↔ x.key = e.key := by
  obtain ⟨i, hi, rfl⟩ := List.getElem_of_mem hx
  obtain ⟨j, hj, rfl⟩ := List.getElem_of_mem hm
  constructor
  · intro h
    have h1 : (es.map (·.born))[i]'(by simpa using hi) = (es.map (·.born))[j]'(by simpa using hj) := by simpa using h
    have := (List.getElem_inj hborn).1 h1
    subst this; rfl
  · intro h
    have h1 : (es.map (·.key))[i]'(by simpa using hi) = (es.map (·.key))[j]'(by simpa using hj) := by simpa using h
    have := (List.getElem_inj hkey).1 h1
    subst this; rfl
theorem find_born : ∀ (l : List MapEntry), (l.map (·.born)).Nodup → ∀ {e : MapEntry}, e ∈ l → l.find? (fun x => x.born == e.born) = some e
  | [], _, e, h => by cases h
  | x :: l, hn, e, h => by
    rw [List.map_cons, List.nodup_cons] at hn
    rcases List.mem_cons.1 h with rfl | h
    · rw [List.find?_cons_of_pos (by simp)]
    · have hne : x.born ≠ e.born := fun e' => hn.1 (by rw [e']; exact List.mem_map.2 ⟨e, h, rfl⟩)
      rw [List.find?_cons_of_neg (by simpa using hne), find_born l hn.2 h]
theorem filter_step (n : Nat) (k : κ) : ∀ (U : List MapEntry) (left : List κ), U.map (·.key) = left.map keyV → (∀ x ∈ U, x.born = n ↔ x.key = keyV k) →
    (U.filter fun x => !(x.born == n)).map (·.key) = (left.filter fun x => decide (x ≠ k)).map keyV
  | [], [], _, _ => rfl
  | [], y :: r, h, _ => by simp at h
  | x :: U, [], h, _ => by simp at h
  | x :: U, y :: r, h, hk => by
    simp only [List.map_cons, List.cons.injEq] at h
    have ih := filter_step n k U r h.2 (fun z hz => hk z (by simp [hz]))
    have hx := hk x (by simp)
    by_cases hb : x.born = n
    · have hy : y = k := keyV_inj (h.1.symm.trans (hx.1 hb))
      rw [List.filter_cons_of_neg (by simp [hb]), List.filter_cons_of_neg (by simp [hy]), ih]
    · have hy : y ≠ k := fun e => hb (hx.2 (by rw [h.1, e]))
      rw [List.filter_cons_of_pos (by simp [hb]), List.filter_cons_of_pos (by simpa using hy), List.map_cons, List.map_cons, ih, h.1]
theorem next_map {r : Nat} {left : List κ} (h : IterAt w b r ks f left) (hne : r ≠ b) (ty : TypeId) :
    (left = [] ∧ (Instr.next (.pointer (some ⟨r, 0, none⟩)) false ty).run P w = .ok (.tuple #[.bool false]) w) ∨
    ∃ k ∈ left, ∃ w', (Instr.next (.pointer (some ⟨r, 0, none⟩)) false ty).run P w = .ok (.tuple #[.bool true, keyV k, f k]) w' ∧ IterAt w' b r ks f (left.filter fun x => decide (x ≠ k)) ∧ (Instr.entry (.pointer (some ⟨r, 0, none⟩))).run P w' = .ok (.tuple #[keyV k, f k]) w' ∧ (∀ S : Nat → Prop, ¬ S r → Keep S w w') ∧ w'.heap.size = w.heap.size := by
  obtain ⟨es, clock, since, seen, last, hb, hs, hH, hr, hold, hsl, hsc, hleft⟩ := h
  simp only [Instr.next, getObj, Sem.run_bind, Sem.run, hr, hb, Result.andThen, next_test_false seen es since last hold hsl, Bool.false_eq_true, if_false]
  obtain ⟨L, hL⟩ : ∃ L, Array.filter (fun e => !seen.contains e.born) es = L := ⟨_, rfl⟩
  have hLl : L.toList = es.toList.filter fun e => !seen.contains e.born := by rw [← hL, Array.toList_filter]
  have hmem : ∀ x ∈ L.toList, x.born < since := fun x hx => hold x (by rw [hLl] at hx; exact (List.mem_filter.1 hx).1)
  rw [hL]
  have e1 : L.filter (fun x => decide (x.born < since)) = L := Array.filter_eq_self.2 (fun x hx => by simpa using hmem x (by simpa using hx))
  have e2 : L.filter (fun x => decide (x.born ≥ since)) = #[] := by
    rw [Array.filter_eq_empty_iff]
    intro x hx
    have := hmem x (by simpa using hx)
    simp
    omega
  simp only [e1, e2, Array.append_empty]
  by_cases h0 : L.size = 0
  · left
    obtain rfl : L = #[] := Array.eq_empty_of_size_eq_zero h0
    rw [← hLl] at hleft
    have hl0 : left = [] := by
      have := congrArg List.length hleft
      exact List.eq_nil_of_length_eq_zero (by simpa using this.symm)
    refine ⟨hl0, ?_⟩
    simp [choose, Sem.run, Question.forced]
  · right
    have hnem : L.isEmpty = false := by simp [Array.isEmpty, h0]
    simp only [hnem, Bool.false_eq_true, if_false, Array.empty_append, Array.size_map]
    have hch : ∃ (j : Nat) (w1 : World), j < L.size ∧ w1.heap = w.heap ∧ (∀ S : Nat → Prop, Keep S w w1) ∧ (choose (Question.mapNext L.size)).run P w = .ok j w1 := by
      by_cases hf : L.size ≤ 1
      · exact ⟨0, w, by omega, rfl, fun S => Keep.refl S w, by simp [choose, Sem.run, Question.forced, hf]⟩
      · exact ⟨_, w.drew, Nat.mod_lt _ (by omega), rfl, fun S => Keep.drew S w, by
          simp only [choose, Sem.run, Question.forced, decide_eq_true_eq, hf, if_false, Question.cut]
          rfl⟩
    obtain ⟨j, w1, hj, hheap, hk1, hrun⟩ := hch
    have hej : L[j]? = some L[j] := by rw [Array.getElem?_eq_getElem hj]
    obtain ⟨e, he⟩ : ∃ e, L[j] = e := ⟨_, rfl⟩
    rw [he] at hej
    have hemL : e ∈ L.toList := by rw [← he]; simp
    have hem : e ∈ es.toList := by rw [hLl] at hemL; exact (List.mem_filter.1 hemL).1
    obtain ⟨i, hi, hei⟩ := List.getElem_of_mem hem
    obtain ⟨k, hk, ek, ev⟩ := hH.at (j := i) (e := e) (by rw [← Array.getElem?_toList, List.getElem?_eq_getElem hi, hei])
    have hkl : k ∈ left := by
      have h1 : e.key ∈ (es.toList.filter fun e => !seen.contains e.born).map (·.key) := List.mem_map.2 ⟨e, by rw [← hLl]; exact hemL, rfl⟩
      rw [hleft, ek] at h1
      obtain ⟨k', hk', e'⟩ := List.mem_map.1 h1
      exact keyV_inj e' ▸ hk'
    have hr1 : w1.heap[r]? = some (.mapIter (some b) since seen last) := by rw [hheap]; exact hr
    have hrlt : r < w1.heap.size := (Array.getElem?_eq_some_iff.1 hr1).1
    have hbw : ({ w1 with heap := w1.heap.setIfInBounds r (.mapIter (some b) since (seen.push e.born) clock) } : World).heap[b]? = some (.map es clock) := by
      rw [show ({ w1 with heap := w1.heap.setIfInBounds r (.mapIter (some b) since (seen.push e.born) clock) } : World).heap = w1.heap.setIfInBounds r (.mapIter (some b) since (seen.push e.born) clock) from rfl, Array.getElem?_setIfInBounds_ne hne, hheap]
      exact hb
    have hrw : ({ w1 with heap := w1.heap.setIfInBounds r (.mapIter (some b) since (seen.push e.born) clock) } : World).heap[r]? = some (.mapIter (some b) since (seen.push e.born) clock) := by simp [hrlt]
    have hfind : es.find? (fun x => x.born == e.born) = some e := by
      rw [← Array.find?_toList]
      exact find_born es.toList hs.2.1 hem
    refine ⟨k, hkl, { w1 with heap := w1.heap.setIfInBounds r (.mapIter (some b) since (seen.push e.born) clock) }, ?_, ⟨es, clock, since, seen.push e.born, clock, ?_, hs, hH, by simp [hrlt], hold, by omega, hsc, ?_⟩, ?_, fun S hS => (hk1 S).trans ⟨rfl, rfl, rfl, by simp, fun i _ hi => by simp [show r ≠ i from fun e => hS (e ▸ hi)]⟩, by simp [hheap]⟩
    · simp only [hrun, Array.getElem?_map, hej, Option.map_some]
      simp [setObj, Sem.run, hr1, ek, ev]
    · exact hbw
    · have hU : (es.toList.filter fun x => !(seen.push e.born).contains x.born) = (es.toList.filter fun x => !seen.contains x.born).filter fun x => !(x.born == e.born) := by
        rw [List.filter_filter]
        refine List.filter_congr fun x _ => ?_
        rw [Array.contains_push, Bool.not_or, Bool.and_comm]
      rw [hU]
      refine filter_step e.born k _ left hleft fun x hx => ?_
      have hxm : x ∈ es.toList := (List.mem_filter.1 hx).1
      rw [born_key es.toList hs.2.1 hs.2.2 hxm hem, ek]
    · simp only [Instr.entry, getObj, Sem.run_bind, Sem.run, hrw, hbw, Result.andThen, Array.back?_push, hfind, bne_self_eq_false, Bool.false_eq_true, if_false]
      simp [ek, ev]
end
end Go.Proofs.YtniehbjoogaccaaGreatDoor.MapO
namespace Go.Proofs.YtniehbjoogaccaaGreatDoor.Url
open Go.RowKit Go.Shelf
attribute [local go_sem] Oper.semAt_some
def canonU (t : List UInt8) : Sum Int U := match sepL t with
  | none => .inl 15
  | some (s, r) => if Ref.lowL s = httpS ∨ Ref.lowL s = httpsS then restU (Ref.lowL s) r else .inl 15
theorem parse_canon (t : List UInt8) (h : t.length ≤ 4096) : parseU t = canonU t := by
  unfold parseU canonU; rw [if_neg (by omega)]; rfl
theorem canon_none (t : List UInt8) (h : sepL t = none) : canonU t = .inl 15 := by unfold canonU; rw [h]
theorem own_zero (s : List UInt8) : ownP s = 0 ↔ ¬ (s = httpS ∨ s = httpsS) := by
  unfold ownP
  by_cases h1 : s = httpS
  · simp [h1]
  · by_cases h2 : s = httpsS
    · rw [if_neg h1, if_pos h2]; simp [h2]
    · rw [if_neg h1, if_neg h2]; simp [h1, h2]
theorem canon_other (t s r : List UInt8) (h : sepL t = some (s, r)) (ho : ownP (Ref.lowL s) = 0) : canonU t = .inl 15 := by
  unfold canonU; rw [h]; exact if_neg ((own_zero _).1 ho)
theorem canon_rest (t s r : List UInt8) (h : sepL t = some (s, r)) (ho : ownP (Ref.lowL s) ≠ 0) : canonU t = restU (Ref.lowL s) r := by
  unfold canonU; rw [h]; exact if_pos (Decidable.not_not.1 fun hn => ho ((own_zero _).2 hn))
theorem ahead_drop (c : UInt8) (l : List UInt8) : l.drop (aheadL c l).length = [] ∨ ∃ r, l.drop (aheadL c l).length = c :: r := by
  by_cases h : c ∈ l
  · obtain ⟨x, y, rfl, hx⟩ := List.eq_append_cons_of_mem h
    rw [(ahead_yes c x y hx).1]
    exact .inr ⟨y, by simp⟩
  · rw [(ahead_no c l h).1]
    exact .inl (by simp)
def srvL (r : List UInt8) : List UInt8 := aheadL 47 (atFst 63 (atFst 35 r))
def pthL (r : List UInt8) : List UInt8 := (atFst 63 (atFst 35 r)).drop (srvL r).length
def portC (s d : List UInt8) (hp : Bool) : Int := if hp = true then (numOf 65535 d).getD 0 else (ownP s : Int)
def optC (b : Bool) (l : List UInt8) : Option (List UInt8) := if b = true then formL 2 l else some []
def portX (s d : List UInt8) (hp : Bool) : Option Nat := if 1 ≤ portC s d hp then some (portC s d hp).toNat else none
theorem rest_core (s r : List UInt8) (hs : s = httpS ∨ s = httpsS) : restU s r = if Host.parseE (atFst 58 (srvL r)) ≠ 0 then .inl (Host.parseE (atFst 58 (srvL r))) else
    match portX s (atSnd 58 (srvL r)) (atOk 58 (srvL r)), pathL (pthL r), optC (atOk 63 (atFst 35 r)) (atSnd 63 (atFst 35 r)), optC (atOk 35 r) (atSnd 35 r) with
    | some n, some p, some q, some f => .inr ⟨s, Ref.lowL (atFst 58 (srvL r)), n, p, q, f, atOk 63 (atFst 35 r), atOk 35 r⟩
    | _, _, _, _ => .inl 2 := by
  have e1 := (at_ahead 35 r).1
  have e2 := (at_ahead 63 (atFst 35 r)).1
  have e3 := (at_ahead 58 (srvL r)).1
  have ho : ∀ (c : UInt8) (l : List UInt8), optL (Host.tailL c l) = optC (atOk c l) (atSnd c l) ∧ (Host.tailL c l).isSome = atOk c l := fun c l => by
    rw [(at_ahead c l).2.1]
    cases atOk c l <;> exact ⟨rfl, rfl⟩
  have hp : portL s (Host.tailL 58 (srvL r)) = portX s (atSnd 58 (srvL r)) (atOk 58 (srvL r)) := by
    rw [(at_ahead 58 (srvL r)).2.1]
    unfold portX portC
    cases atOk 58 (srvL r) with
    | false =>
      have := (own_pos s hs).1
      simp only [Bool.false_eq_true, if_false]
      rw [portL, if_pos (by omega)]; simp
    | true =>
      simp only [if_true]
      rw [portL, numOf_ref]
      cases Ref.numOf 65535 (atSnd 58 (srvL r)) <;> rfl
  have x1 : aheadL 47 (aheadL 63 (aheadL 35 r)) = srvL r := by unfold srvL; rw [e2, e1]
  have x2 : (aheadL 63 (aheadL 35 r)).drop (srvL r).length = pthL r := by unfold pthL; rw [e2, e1]
  conv => lhs; unfold restU
  simp only
  rw [x1, x2, ← e3, hp, (ho 35 r).1, (ho 35 r).2, ← e1, (ho 63 _).1, (ho 63 _).2]
  rfl
theorem rest_host (s r : List UInt8) (hs : s = httpS ∨ s = httpsS) (h : Host.parseE (atFst 58 (srvL r)) ≠ 0) : restU s r = .inl (Host.parseE (atFst 58 (srvL r))) := by rw [rest_core s r hs, if_pos h]
theorem numGo_nonneg (most : Int) : ∀ (l : List UInt8) (n m : Int), Ref.numGo most l n = some m → 0 ≤ n → 0 ≤ m
  | [], n, m, h, h0 => by rw [Ref.numGo] at h; cases h; exact h0
  | b :: r, n, m, h, h0 => by
    rw [Ref.numGo] at h
    split at h
    · rename_i hc
      have := (Ref.decB_of b).1 hc.1
      exact numGo_nonneg most r _ m h (by omega)
    · cases h
theorem rest_good (s r : List UInt8) (hs : s = httpS ∨ s = httpsS) (h : Host.parseE (atFst 58 (srvL r)) = 0) (p q f : List UInt8) (h1 : portC s (atSnd 58 (srvL r)) (atOk 58 (srvL r)) ≠ 0) (h2 : pathL (pthL r) = some p) (h3 : optC (atOk 63 (atFst 35 r)) (atSnd 63 (atFst 35 r)) = some q) (h4 : optC (atOk 35 r) (atSnd 35 r) = some f) :
    ∃ n : Nat, portC s (atSnd 58 (srvL r)) (atOk 58 (srvL r)) = (n : Int) ∧ restU s r = .inr ⟨s, Ref.lowL (atFst 58 (srvL r)), n, p, q, f, atOk 63 (atFst 35 r), atOk 35 r⟩ := by
  have hge : 0 ≤ portC s (atSnd 58 (srvL r)) (atOk 58 (srvL r)) := by
    unfold portC
    split
    · rw [numOf_ref]
      cases hn : Ref.numOf 65535 (atSnd 58 (srvL r)) with
      | none => simp
      | some m =>
        unfold Ref.numOf at hn
        split at hn
        · cases hn
        · have := numGo_nonneg 65535 _ _ _ hn (by omega); simp; omega
    · omega
  refine ⟨_, (Int.toNat_of_nonneg hge).symm, ?_⟩
  have hx : portX s (atSnd 58 (srvL r)) (atOk 58 (srvL r)) = some (portC s (atSnd 58 (srvL r)) (atOk 58 (srvL r))).toNat := by unfold portX; rw [if_pos (by omega)]
  rw [rest_core s r hs, if_neg (by rw [h]; simp), hx, h2, h3, h4]
theorem rest_port (s r : List UInt8) (hs : s = httpS ∨ s = httpsS) (h : Host.parseE (atFst 58 (srvL r)) = 0) (h1 : portC s (atSnd 58 (srvL r)) (atOk 58 (srvL r)) = 0) : restU s r = .inl 2 := by
  have hx : portX s (atSnd 58 (srvL r)) (atOk 58 (srvL r)) = none := by unfold portX; rw [if_neg (by omega)]
  rw [rest_core s r hs, if_neg (by rw [h]; simp), hx]
theorem rest_path (s r : List UInt8) (hs : s = httpS ∨ s = httpsS) (h : Host.parseE (atFst 58 (srvL r)) = 0) (h2 : pathL (pthL r) = none) : restU s r = .inl 2 := by
  rw [rest_core s r hs, if_neg (by rw [h]; simp), h2]
  cases portX s (atSnd 58 (srvL r)) (atOk 58 (srvL r)) <;> rfl
theorem rest_query (s r : List UInt8) (hs : s = httpS ∨ s = httpsS) (h : Host.parseE (atFst 58 (srvL r)) = 0) (h3 : optC (atOk 63 (atFst 35 r)) (atSnd 63 (atFst 35 r)) = none) : restU s r = .inl 2 := by
  rw [rest_core s r hs, if_neg (by rw [h]; simp), h3]
  cases portX s (atSnd 58 (srvL r)) (atOk 58 (srvL r)) <;> cases pathL (pthL r) <;> rfl
theorem rest_frag (s r : List UInt8) (hs : s = httpS ∨ s = httpsS) (h : Host.parseE (atFst 58 (srvL r)) = 0) (h4 : optC (atOk 35 r) (atSnd 35 r) = none) : restU s r = .inl 2 := by
  rw [rest_core s r hs, if_neg (by rw [h]; simp), h4]
  cases portX s (atSnd 58 (srvL r)) (atOk 58 (srvL r)) <;> cases pathL (pthL r) <;> cases optC (atOk 63 (atFst 35 r)) (atSnd 63 (atFst 35 r)) <;> rfl
def CanonOut : Sum Int U → World → Ending → World → Prop
  | .inl n, w, e, w' => n ≠ 0 ∧ e = .returned (.tuple #[.agg zeroU, .int .i64 n]) ∧ Below w.heap.size w w'
  | .inr u, w, e, w' => ∃ v, e = .returned (.tuple #[v, .int .i64 0]) ∧ UrlIn w' v u ∧ Below w.heap.size w w'
theorem By.set {B i : Nat} {cs : Array Value} {X : World} {v u : Value} {l : List UInt8} (h : By X v l) (hU : UB B cs X) (hcs : ∀ (j : Nat) (x : Value), cs[j]? = some x → ∀ z : Int, x ≠ .int .u8 z) : By (X.setCell ⟨B, i, none⟩ u) v l := by
  obtain ⟨q, c, rfl, h2, h3, h4, h5⟩ := h
  refine ⟨q, c, rfl, h2, h3, h4, fun h0 => ?_⟩
  obtain ⟨b, o, he, hc⟩ := h5 h0
  refine ⟨b, o, he, fun j hj => ?_⟩
  have hne : b ≠ B := fun e => by
    subst e
    have h1 := hc j hj
    simp only [World.cell?, show X.heap[b]? = _ from hU] at h1
    exact hcs _ _ h1 _ rfl
  exact (World.cell?_of_block ((Keep.setCell (S := fun k => k ≠ B) X ⟨B, i, none⟩ u (fun h => h rfl)).block b (World.block_lt_of_cell? X _ (hc j hj)) hne)).trans (hc j hj)
theorem UB.other {B C i : Nat} {cs : Array Value} {X : World} (h : UB B cs X) (hne : B ≠ C) (u : Value) : UB B cs (X.setCell ⟨C, i, none⟩ u) :=
  ((Keep.setCell (S := fun k => k = B) X ⟨C, i, none⟩ u (fun h => hne h.symm)).block B h.lt rfl).trans h
theorem nb8 {a0 a1 a3 a4 a5 : Value} {p : Int} {b c : Bool} (h0 : ∃ q n c, a0 = .slice q n c) (h1 : ∃ q n c, a1 = .slice q n c) (h3 : ∃ q n c, a3 = .slice q n c) (h4 : ∃ q n c, a4 = .slice q n c) (h5 : ∃ q n c, a5 = .slice q n c) :
    ∀ (j : Nat) x, (#[a0, a1, .int .i64 p, a3, a4, a5, .bool b, .bool c] : Array Value)[j]? = some x → ∀ z, x ≠ .int .u8 z := by
  obtain ⟨_, _, _, rfl⟩ := h0
  obtain ⟨_, _, _, rfl⟩ := h1
  obtain ⟨_, _, _, rfl⟩ := h3
  obtain ⟨_, _, _, rfl⟩ := h4
  obtain ⟨_, _, _, rfl⟩ := h5
  intro j x hx z he
  subst he
  match j, hx with
  | 0, hx => simp at hx
  | 1, hx => simp at hx
  | 2, hx => simp at hx
  | 3, hx => simp at hx
  | 4, hx => simp at hx
  | 5, hx => simp at hx
  | 6, hx => simp at hx
  | 7, hx => simp at hx
  | n + 8, hx => simp at hx
end Go.Proofs.YtniehbjoogaccaaGreatDoor.Url
