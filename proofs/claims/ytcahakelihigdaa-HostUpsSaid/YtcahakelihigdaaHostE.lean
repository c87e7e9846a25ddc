/- host.Up: its iterator tells what is above a host. Conditions: a text is of at most 2^40 bytes. -/
import Derived.Test.YtcahakelihigdaaHostD
import Derived.Test.YtcahakelihigdaaCutK
namespace Go.Proofs.Ytcahakelihigdaa.Host
open Go.RowKit Go.Shelf
attribute [local go_sem] Oper.semAt_some

/-- What is told of a host: it, and, if that goes on, what is above it. -/
def upX (g : Bool) (l : List UInt8) : List (List UInt8) := if g then Ref.fromL 46 (Ref.splitL 46 l) else [l]
theorem upX_one (l : List UInt8) : upX false l = [l] := rfl
theorem upX_many (l : List UInt8) : upX true l = l :: (match tailL 46 l with | none => [] | some r => upX true r) := from_split 46 l
theorem tail_at (c : UInt8) : ∀ l : List UInt8, tailL c l = if atOk c l = true then some (atSnd c l) else none
  | [] => by simp [tailL, atOk, Lib.indexByte]
  | b :: r => by
    have ih := tail_at c r
    have hge := Lib.indexByte_ge r c
    by_cases h : b = c
    · subst h
      simp [tailL, atOk, atSnd, Lib.indexByte]
    · have e1 : tailL c (b :: r) = tailL c r := by conv => lhs; unfold tailL; rw [if_neg h]
      rw [e1, ih]
      by_cases h0 : 0 ≤ Lib.indexByte r c
      · obtain ⟨k, hk⟩ : ∃ k : Nat, Lib.indexByte r c = (k : Int) := ⟨(Lib.indexByte r c).toNat, by omega⟩
        have hk2 : Lib.indexByte (b :: r) c = ((k + 1 : Nat) : Int) := by
          unfold Lib.indexByte
          rw [if_neg (by simpa using h), hk, if_neg (by rw [beq_iff_eq]; omega)]; simp
        obtain ⟨_, s1, o1⟩ := at_found c r k hk
        obtain ⟨_, s2, o2⟩ := at_found c (b :: r) (k + 1) hk2
        rw [s1, o1, s2, o2]; rfl
      · have hk : Lib.indexByte r c = -1 := by omega
        have hk2 : Lib.indexByte (b :: r) c = -1 := by
          unfold Lib.indexByte
          rw [if_neg (by simpa using h), hk]; rfl
        obtain ⟨_, s1, o1⟩ := at_none c r hk
        obtain ⟨_, s2, o2⟩ := at_none c (b :: r) hk2
        rw [o1, o2]; rfl
theorem upX_found (l : List UInt8) (h : atOk 46 l = true) : upX true l = l :: upX true (atSnd 46 l) := by
  rw [upX_many, tail_at, if_pos h]
theorem upX_none (l : List UInt8) (h : atOk 46 l = false) : upX true l = [l] := by
  rw [upX_many, tail_at, if_neg (by rw [h]; simp)]
theorem atSnd_len (l : List UInt8) (h : atOk 46 l = true) : (atSnd 46 l).length < l.length := by
  have ht := tail_at 46 l
  rw [if_pos h] at ht
  exact tail_len 46 l _ ht
theorem upX_up (l : List UInt8) (h : parseE l = 0) (hl : Ref.lowL l = l) : upL l = upX (!addressB l) l := by
  unfold upL
  rw [if_pos ⟨h, hl⟩]
  have ha : addressB l = addrB (Ref.splitL 46 l) := by unfold addressB; rw [h]; rfl
  rw [ha]
  cases addrB (Ref.splitL 46 l) <;> rfl

theorem row_nil {W : World} {base : Nat} {e : TypeId} {size n c m : Nat} {xs : List Value} (h : W.ownsRow base e size (.slice none n c) m xs) : n = 0 ∧ c = 0 := by
  rcases h.2 with ⟨h1, _⟩ | ⟨g, cap, cur, h1, _⟩
  · cases h1; exact ⟨rfl, rfl⟩
  · cases h1

def sliceN : Value → Nat
  | .slice _ n _ => n
  | _ => 0
def boolN : Value → Nat
  | .bool true => 1
  | _ => 0

set_option maxRecDepth 100000 in
set_option maxHeartbeats 4000000 in
theorem Up2_iter (B Bg : Nat) (q : Option Addr) (n c : Nat) (l : List UInt8) (g : Bool) (RB : Nat → Prop) (w0 : World)
    (hl : l.length = n) (hn : n ≤ 1099511627775) (hnc : n ≤ c) (hq0 : q = none → n = 0 ∧ c = 0) (hb : Lib.BytesIn w0 q n (Lib.numsL l)) (hq : ∀ a, q = some a → 0 < n → RB a.block)
    (hB : Boxed w0 B 22 (.slice q n c)) (hRB : RB B) (hG : Boxed w0 Bg 4 (.bool g)) (hRG : RB Bg) (hRs : ∀ b, RB b → b < w0.heap.size) :
    IterC Try.prog 29 #[.pointer (some ⟨B, 0, none⟩), .pointer (some ⟨Bg, 0, none⟩)] RowArg (upX g l) RB w0 := by
  intro l' J Jx W hW hJ hJx hY h0
  refine (callsIn_wide (n := 1)).1 ?_
  refine callsIn_of_wp Try.func29 rfl trivial ?_ rfl
  simp only [Try.ntmps29, List.size_toArray, List.length_cons, List.length_nil, Nat.reduceAdd, Nat.reduceSub, Array.replicate_succ, Array.replicate_zero, List.push_toArray, List.append_toArray, List.nil_append, List.cons_append]
  have bB := (hW.boxed hB hRB).cell
  have hbW := bytes_keep hb hW hq
  have hll := Lib.hid hl
  gi_wp2
  gi_loopw [4, 5] (fun r m wr => Keep RB W wr ∧ ∃ pre : List (List UInt8), ∃ Q : Nat → Prop, J pre Q wr ∧ (∀ b, Q b → b < wr.heap.size) ∧
    ((m = .bool false ∧ Hid (upX g l = pre)) ∨
      (m = .bool true ∧ ∃ (qr : Option Addr) (nr cr : Nat) (lr : List UInt8), r = .slice qr nr cr ∧ Hid (lr.length = nr) ∧ nr ≤ n ∧ nr ≤ cr ∧ (qr = none → nr = 0 ∧ cr = 0) ∧ Lib.BytesIn wr qr nr (Lib.numsL lr) ∧ (∀ a, qr = some a → 0 < nr → RB a.block ∨ Q a.block) ∧ Hid (upX g l = pre ++ upX g lr)))) (fun r m _ => sliceN r + boolN m)
  case atStart =>
    exact ⟨Keep.refl _ _, [], fun _ => False, h0, fun _ h => h.elim, .inr ⟨rfl, q, n, c, l, rfl, hll, Nat.le_refl _, hnc, hq0, hbW, fun a h1 h2 => .inl (hq a h1 h2), rfl⟩⟩
  case round =>
    obtain ⟨hKr, pre, Q, hJr, hQl, ⟨rfl, HX⟩ | ⟨rfl, qr, nr, cr, lr, rfl, HL, hnr, hrc, hr0, hbr, hqr, HX⟩⟩ := hrel
    · clear hY hb hbW
      gi_wp2_with fail
      refine ⟨trivial, ?_⟩
      gi_wp2
      refine ⟨fun _ h => (by cases h), ?_⟩
      gi_wp2
      refine bodyPost_end (results_none rfl _ _ _) rfl ?_
      exact ⟨⟨_, rfl⟩, Q, hQl, .inl (by rw [HX.out]; exact hJr)⟩
    · have con := Clone_any qr nr cr lr wr HL.out (by omega) hbr
      have hgo : ∀ W', Keep RB W W' → W'.cell? ⟨Bg, 0, none⟩ = some (.bool g) := fun W' h => ((hW.trans h).boxed hG hRG).cell
      obtain ⟨r2, HX2⟩ : ∃ r2, Hid (upX g l = pre ++ lr :: r2) := by
        cases g with
        | false => exact ⟨[], Lib.hid (by rw [HX.out, upX_one])⟩
        | true => exact ⟨_, Lib.hid (by rw [HX.out, upX_many])⟩
      have key := fun (w4 : World) (v4 : Value) => yield_row (w4 := w4) (v4 := v4) (n := nr) hJ hY HX2.out hJr hQl
      have hRBl : ∀ b, RB b → b < wr.heap.size := fun b h => Nat.lt_of_lt_of_le (Nat.lt_of_lt_of_le (hRs b h) hW.size) hKr.size
      have hnl := HL.out
      clear hY hb hbW
      gi_wp2_with fail
      refine ⟨trivial, (callsIn_wide.2 con).mono ?_⟩
      rintro e w4 ⟨v4, rfl, hrow4, hbel4⟩
      obtain ⟨fn, tmps, assign, body, hy, hR⟩ := key w4 v4 hbel4 hnl hrow4
      clear key con hrow4
      gi_wp2_with fail
      refine hR.mono ?_
      rintro e W5 ⟨ok, rfl, hkp, Q', hQQ, hQl', hpost⟩
      have hk5 : Keep RB wr W5 := hkp.mono fun b _ h => .inl h
      have hbr5 := bytes_keep hbr hkp (fun a h1 h2 => hqr a h1 h2)
      have cg5 := hgo W5 (hKr.trans hk5)
      clear hR hy hbel4 hkp
      cases ok with
      | false =>
        have hj5 := (hpost.resolve_left (by simp)).2
        clear hpost
        gi_wp2
        refine bodyPost_end (results_none rfl _ _ _) rfl ?_
        exact ⟨⟨_, rfl⟩, Q', hQl', .inr ⟨pre ++ [lr], r2, by rw [HX2.out]; simp, hj5⟩⟩
      | true =>
        have hj5 := (hpost.resolve_right (by simp)).2
        have con2 := At_any qr nr cr lr 46 W5 hnl (by omega) hrc hr0 hbr5
        clear hpost
        gi_wp2_with fail
        refine ⟨trivial, (callsIn_wide.2 con2).mono ?_⟩
        rintro e w6 ⟨v1, v2, rfl, hrow1, hrow2, hbel6⟩
        have hk6 : Keep RB W w6 := (hKr.trans hk5).trans ((Keep.of_below hbel6).mono fun b hb _ => hb)
        have cg6 := hgo w6 hk6
        have hs6 := hbel6.size
        have hq6 : ∀ b, (Q' b ∨ (W5.heap.size ≤ b ∧ b < w6.heap.size)) → b < w6.heap.size := fun b hb => hb.elim (fun h => Nat.lt_of_lt_of_le (hQl' b h) hs6) And.right
        have j6 := hJ _ _ (fun b => Q' b ∨ (W5.heap.size ≤ b ∧ b < w6.heap.size)) _ _ hj5 ((Keep.of_below hbel6).mono fun b hb _ => hb) (fun b hb => ⟨hb.imp id And.left, hq6 b hb⟩)
        obtain ⟨q2, c2, rfl, _, hnc2, hcm2, hbs2, hblk2⟩ := row_open hrow2
        have hq20 : q2 = none → (atSnd 46 lr).length = 0 ∧ c2 = 0 := fun h => by subst h; exact row_nil hrow2
        have hq2b : ∀ a, q2 = some a → 0 < (atSnd 46 lr).length → RB a.block ∨ (Q' a.block ∨ (W5.heap.size ≤ a.block ∧ a.block < w6.heap.size)) := fun a ha _ => .inr (.inr ⟨(hblk2 a ha).2.1, (hblk2 a ha).1⟩)
        cases hok : atOk 46 lr with
        | false =>
          have HN := Lib.hid (show upX g l = pre ++ [lr] by
            rw [HX.out]
            cases g with
            | false => rfl
            | true => rw [upX_none lr hok])
          have hz : (atSnd 46 lr).length = 0 := by
            have := Lib.indexByte_ge lr 46
            rw [(at_none 46 lr (by unfold atOk at hok; rw [decide_eq_false_iff_not] at hok; omega)).2.1]; rfl
          rw [hz] at *
          clear con2 hrow1 hrow2 hok HX HX2 hbs2 hblk2
          gi_wp2
          go_roundw
          case rel => exact ⟨hk6, _, _, j6, hq6, .inl ⟨rfl, HN⟩⟩
          case measure => simp [sliceN, boolN]
        | true =>
          have hlt := atSnd_len lr hok
          cases g with
          | false =>
            have HN := Lib.hid (show upX false l = pre ++ [lr] by rw [HX.out]; rfl)
            clear con2 hrow1 hrow2 hok HX HX2 hbs2 hblk2
            gi_wp2
            go_roundw
            case rel => exact ⟨hk6, _, _, j6, hq6, .inl ⟨rfl, HN⟩⟩
            case measure => simp [sliceN, boolN]; omega
          | true =>
            have HN := Lib.hid (show upX true l = (pre ++ [lr]) ++ upX true (atSnd 46 lr) by rw [HX.out, upX_found lr hok]; simp)
            clear con2 hrow1 hrow2 hok HX HX2 hblk2
            gi_wp2
            go_roundw
            case rel => exact ⟨hk6, _, _, j6, hq6, .inr ⟨rfl, q2, _, c2, atSnd 46 lr, rfl, rfl, by omega, hnc2, hq20, hbs2, hq2b, HN⟩⟩
            case measure => simp [sliceN, boolN]; omega

end Go.Proofs.Ytcahakelihigdaa.Host
