/- The document's own Address and Up of hosts. Conditions: a text is of at most 2^40 bytes. -/
import Derived.Test.YtcahakelihigdaaHostS
namespace Go.Proofs.Ytcahakelihigdaa.Ref
open Go.RowKit Go.Shelf

set_option maxRecDepth 100000 in
set_option maxHeartbeats 4000000 in
theorem Address_any (s : ByteArray) (w : World) (hs : s.size ≤ 1099511627775) :
    Calls Try.prog 11 #[.string s] w fun e w' => e = .returned (.bool (Host.addressB s.data.toList)) ∧ Below w.heap.size w w' := by
  have con := Parse_any s w hs
  have con2 := fun W => Split_any 46 s W hs
  have HP := Lib.hid (split_small 46 s.data.toList)
  have hl := ba_len s
  have HA := Lib.hid (show Host.addressB s.data.toList = (decide (Host.parseE s.data.toList = 0) && Host.addrB (splitL 46 s.data.toList)) from rfl)
  have hlen := split_len 46 s.data.toList
  have hpc := Host.parse_cases s.data.toList
  rw [hl] at hpc hlen
  generalize s.data.toList = L at *
  generalize splitL 46 L = xs at *
  generalize Host.addressB L = ab at *
  generalize Host.parseE L = pe at *
  generalize lowL L = lows at *
  by_cases h0 : pe = 0
  · subst h0
    go_enter Try.func11, Try.ntmps11
    go_wp2_with fail
    refine con.mono ?_
    rintro e w2 ⟨x, rfl, _, hbel⟩
    clear con
    go_wp2_with fail
    refine (con2 _).mono ?_
    rintro e w3 ⟨v, rfl, hrow, hbel3⟩
    obtain ⟨q, c, rfl, _, hnc, hcm, hst, hblk⟩ := strs_row hrow
    have con4 := address4_any q xs.length c xs w3 rfl (by omega) hst (fun x hx => by have := HP.out x hx; omega)
    have HB := Lib.hid (hbel.trans (hbel3.mono hbel.size))
    clear con2 hrow hst hblk
    go_wp2_with fail
    refine con4.mono ?_
    rintro e w4 ⟨rfl, rfl⟩
    go_wp2
    go_ret
    exact ⟨by rw [HA.out]; simp, HB.out⟩
  · have H := Lib.hid (show ab = false by rw [HA.out, decide_eq_false h0]; rfl)
    have e1 : (pe == 0) = false := by rw [beq_eq_false_iff_ne]; exact h0
    clear HA h0
    go_enter Try.func11, Try.ntmps11
    go_wp2_with fail
    refine con.mono ?_
    rintro e w2 ⟨x, rfl, _, hbel⟩
    clear con con2
    go_wp2
    go_ret
    exact ⟨by rw [H.out]; try rfl, hbel⟩

/-- What stands behind a first piece. -/
def restL (c : UInt8) : List (List UInt8) → List UInt8
  | [] => []
  | p :: r => c :: p ++ restL c r
theorem join_rest (c : UInt8) (p : List UInt8) : ∀ r : List (List UInt8), joinL c (p :: r) = p ++ restL c r
  | [] => by simp [joinL, restL]
  | q :: r => by
    have ih := join_rest c q r
    show p ++ c :: joinL c (q :: r) = p ++ (c :: q ++ restL c r)
    rw [ih]; simp
theorem join_le_rest (c : UInt8) : ∀ r : List (List UInt8), (joinL c r).length ≤ (restL c r).length
  | [] => Nat.le_refl _
  | p :: r => by rw [join_rest]; simp [restL]
theorem join_drop_len (c : UInt8) : ∀ (l : List (List UInt8)) (i : Nat), (joinL c (l.drop i)).length ≤ (joinL c l).length
  | [], i => by simp
  | p :: r, 0 => Nat.le_refl _
  | p :: r, i + 1 => by
    have := join_drop_len c r i
    have h2 := join_le_rest c r
    rw [List.drop_succ_cons, join_rest, List.length_append]; omega
theorem from_len (c : UInt8) : ∀ l : List (List UInt8), (fromL c l).length = l.length
  | [] => rfl
  | p :: r => by simp [fromL, from_len c r]
theorem from_drop (c : UInt8) : ∀ (l : List (List UInt8)) (i : Nat), fromL c (l.drop i) = (fromL c l).drop i
  | [], i => by simp [fromL]
  | p :: r, 0 => rfl
  | p :: r, i + 1 => by simp [fromL, from_drop c r i]
theorem from_take (c : UInt8) (l : List (List UInt8)) (k : Nat) (h : k < l.length) : (fromL c l).take (k + 1) = (fromL c l).take k ++ [joinL c (l.drop k)] := by
  have h2 : k < (fromL c l).length := by rw [from_len]; exact h
  rw [List.take_succ_eq_append_getElem h2]
  congr 2
  have h3 : (fromL c l).drop k = joinL c (l.drop k) :: fromL c (l.drop (k + 1)) := by
    rw [← from_drop, drop_consS l k h]; rfl
  rw [List.drop_eq_getElem_cons h2] at h3
  exact (List.cons.inj h3).1

/-- The address of a piece that begins at place l. -/
def subA (q : Option Addr) (c l : Nat) : Option Addr := if c = l then q else q.map (·.add l)
theorem StIn.from {w : World} {q : Option Addr} {n c i : Nat} {xs : List (List UInt8)} (h : StIn w q n xs) (hc : n ≤ c) (hl : xs.length = n) : StIn w (subA q c i) (n - i) (xs.drop i) := by
  intro hpos
  obtain ⟨b, o, rfl, hb, hcell⟩ := h (by omega)
  refine ⟨b, o + i, ?_, hb, fun k hk => ?_⟩
  · unfold subA
    rw [if_neg (by omega)]
    by_cases h0 : i = 0
    · subst h0; simp [Addr.add]
    · simp [Addr.add, h0]
  · rw [Nat.add_assoc, hcell (i + k) (by omega)]
    simp [List.getD, List.getElem?_drop]
theorem run_slice_fromS (q : Option Addr) (n c i : Nat) (W : World) (hi : i + 1 ≤ n) :
    (Instr.slice 34 (.slice q n c) (some (.int .i64 ((i : Int) + 1))) none none).run Try.prog W = .ok (.slice (subA q c (i + 1)) (n - (i + 1)) (c - (i + 1))) W := by
  have hs : ∀ w, (Go.sizeOf 9).run Try.prog w = .ok 1 w := Try.sizeOf9
  have he : Try.prog.elem 34 = 9 := by kernel_rfl
  have h := run_slice_l (P := Try.prog) (w := W) 34 q n c (by rw [he]; exact Try.underlying34) .i64 ((i : Int) + 1) (by omega) (by omega)
  rw [h, he, hs]
  simp only [Result.andThen, sliced, subA, Nat.mul_one, show ((i : Int) + 1).toNat = i + 1 from by omega]

theorem owns_below {w w' : World} {base : Nat} {e : TypeId} {size n : Nat} {v : Value} {xs : List Value} (h : w.ownsRow base e size v n xs) (hb : Below w.heap.size w w') : w'.ownsRow base e size v n xs := by
  refine ⟨h.1, ?_⟩
  rcases h.2 with hn | ⟨g, cap, cur, rfl, hbg, hgg, rest⟩
  · exact .inl hn
  · exact .inr ⟨g, cap, cur, rfl, hbg, (hb.block g (Array.getElem?_eq_some_iff.1 hgg).1).trans hgg, rest⟩
theorem StIn.grown {w w' : World} {q : Option Addr} {n : Nat} {xs : List (List UInt8)} {o : Obj} {row : Option Nat} (h : StIn w q n xs) (hg : (w.alloc o).grownBy w' row) (hne : ∀ a, q = some a → row ≠ some a.block) : StIn w' q n xs := fun h0 => by
  obtain ⟨b, oo, rfl, hb, hc⟩ := h h0
  have hs : b < (w.alloc o).heap.size := by rw [World.size_alloc]; omega
  have hbl : w'.heap[b]? = w.heap[b]? := (hg.block b hs (fun e => hne _ rfl e.symm)).trans (Below.heap_alloc w _ b hb)
  exact ⟨b, oo, rfl, Nat.lt_of_lt_of_le hs hg.size, fun i hi => by rw [← hc i hi]; simp only [World.cell?, hbl]⟩
theorem ba_join (z p : ByteArray) : (z ++ ⟨#[46]⟩ ++ p).data.toList = z.data.toList ++ 46 :: p.data.toList := by
  simp [ByteArray.data_append, Array.toList_append]

/-- Texts in a row of one's own. -/
def TextsOut (xs : List (List UInt8)) (w : World) (e : Ending) (w' : World) : Prop :=
  ∃ v, e = .returned v ∧ w'.ownsRow w.heap.size 9 1 v xs.length (xs.map strV) ∧ Below w.heap.size w w'
theorem texts_none {xs : List (List UInt8)} {w w' : World} (h : xs = []) (hb : Below w.heap.size w w') : TextsOut xs w (.returned (.slice none 0 0)) w' := by
  subst h
  exact ⟨_, rfl, World.ownsRow_nil _ _ _ _, hb⟩
theorem texts_row {xs : List (List UInt8)} {w w' : World} {v : Value} {n : Nat} {ys : List (List UInt8)} (h : xs = ys) (hn : ys.length = n) (hr : w'.ownsRow w.heap.size 9 1 v n (ys.map strV)) (hb : Below w.heap.size w w') : TextsOut xs w (.returned v) w' := by
  subst h; subst hn
  exact ⟨_, rfl, hr, hb⟩
theorem owns_one (w : World) (x : Value) (base : Nat) (hb : base ≤ w.heap.size) : (w.alloc (.cells #[x] 9)).ownsRow base 9 1 (.slice (some ⟨w.heap.size, 0, none⟩) 1 1) 1 [x] :=
  ⟨by simp, .inr ⟨w.heap.size, 1, #[x], rfl, hb, heap_alloc_new w _, Nat.le_refl _, by decide, by simp, by simp⟩⟩

theorem up_none (t : List UInt8) (h : ¬ (Host.parseE t = 0 ∧ lowL t = t)) : Host.upL t = [] := by unfold Host.upL; rw [if_neg h]
theorem up_one (t : List UInt8) (h : Host.parseE t = 0) (h2 : lowL t = t) (ha : Host.addressB t = true) : Host.upL t = [t] := by
  unfold Host.upL; rw [if_pos ⟨h, h2⟩, if_pos]
  unfold Host.addressB at ha
  rw [Bool.and_eq_true] at ha; exact ha.2
theorem up_from (t : List UInt8) (h : Host.parseE t = 0) (h2 : lowL t = t) (ha : Host.addressB t = false) : Host.upL t = fromL 46 (splitL 46 t) := by
  unfold Host.upL; rw [if_pos ⟨h, h2⟩, if_neg]
  unfold Host.addressB at ha
  rw [decide_eq_true h, Bool.true_and] at ha
  rw [ha]; simp

set_option maxRecDepth 100000 in
set_option maxHeartbeats 8000000 in
theorem Up_any (s : ByteArray) (w : World) (hs : s.size ≤ 1099511627775) :
    Calls Try.prog 13 #[.string s] w fun e w' => TextsOut (Host.upL s.data.toList) w e w' := by
  obtain ⟨i0, hi0, hz0, hz1, hz2⟩ := info_parts info_str
  have con := Parse_any s w hs
  have con2 := fun W => Split_any 46 s W hs
  have con3 := fun W => Address_any s W hs
  have HP := Lib.hid (split_small 46 s.data.toList)
  have hl := ba_len s
  have U0 := Lib.hid (up_none s.data.toList)
  have U1 := Lib.hid (up_one s.data.toList)
  have U2 := Lib.hid (up_from s.data.toList)
  have hlen := split_len 46 s.data.toList
  have JS := Lib.hid (join_split 46 s.data.toList)
  have SV := Lib.hid (show strV s.data.toList = .string s by unfold strV; simp)
  obtain ⟨L, hL⟩ : ∃ L, s.data.toList = L := ⟨_, rfl⟩
  have HLs := Lib.hid hL
  rw [hL] at con con2 con3 HP hl U0 U1 U2 hlen JS SV ⊢
  clear hL
  rw [hl] at hlen
  generalize splitL 46 L = xs at *
  generalize Host.addressB L = ab at *
  generalize Host.parseE L = pe at *
  generalize lowL L = lows at *
  by_cases h0 : pe = 0
  · subst h0
    by_cases h1 : lows = L
    · subst h1
      cases ab with
      | true =>
        have H := Lib.hid (U1.out rfl rfl rfl)
        clear U0 U1 U2 con2 HP JS hlen
        go_enter Try.func13, Try.ntmps13
        go_wp2_with fail
        refine con.mono ?_
        rintro e w2 ⟨x, rfl, hx, hbel⟩
        obtain rfl : x = s := ba_ext _ _ (by rw [hx.out, HLs.out]; rfl)
        have e1 := str_eq x x
        rw [decide_eq_true rfl] at e1
        have e2 : (x.toList != x.toList) = false := by unfold bne; rw [e1]; rfl
        clear con hx
        go_wp2_with fail
        refine (con3 _).mono ?_
        rintro e w3 ⟨rfl, hbel3⟩
        have HB := Lib.hid (hbel.trans (hbel3.mono hbel.size))
        clear con3 hbel hbel3
        go_wp2
        go_ret
        have hs3 := HB.out.size
        exact texts_row H.out rfl (by have h := owns_one w3 (.string x) w.heap.size hs3; rw [← SV.out] at h ⊢; exact h) (HB.out.alloc hs3 _)
      | false =>
        have H := Lib.hid (U2.out rfl rfl rfl)
        clear U0 U1 U2
        have JD := Lib.hid (fun i => Nat.le_trans (join_drop_len 46 xs i) (by rw [JS.out, hl]; exact Nat.le_refl _) : ∀ i, (joinL 46 (xs.drop i)).length ≤ s.size)
        obtain ⟨n, hn⟩ : ∃ n, xs.length = n := ⟨_, rfl⟩
        have HN := Lib.hid hn
        rw [hn] at hlen con2
        clear JS hn hl
        go_enter Try.func13, Try.ntmps13
        go_wp2_with fail
        refine con.mono ?_
        rintro e w2 ⟨x, rfl, hx, hbel⟩
        obtain rfl : x = s := ba_ext _ _ (by rw [hx.out, HLs.out]; rfl)
        have e1 := str_eq x x
        rw [decide_eq_true rfl] at e1
        have e2 : (x.toList != x.toList) = false := by unfold bne; rw [e1]; rfl
        clear con hx
        go_wp2_with fail
        refine (con3 _).mono ?_
        rintro e w3 ⟨rfl, hbel3⟩
        have HB := Lib.hid (hbel.trans (hbel3.mono hbel.size))
        clear con3 hbel hbel3
        have hs3 := HB.out.size
        have hmade : (w3.alloc (.cells #[] 9)).ownsRow w.heap.size 9 1 (.slice (some ⟨w3.heap.size, 0, none⟩) 0 0) 0 [] := World.ownsRow_made w3 #[] 0 hs3 (Nat.zero_le _) rfl
        have HB4 := HB.out.alloc hs3 (.cells #[] 9)
        go_wp2_with fail
        refine (con2 _).mono ?_
        rintro e w5 ⟨v, rfl, hrow, hbel5⟩
        obtain ⟨q, c, rfl, _, hnc, hcm, hst, hblk⟩ := strs_row hrow
        have hown := owns_below hmade hbel5
        have HB5 := HB4.trans (hbel5.mono HB4.size)
        have hne5 : ∀ b, (Value.slice (some ⟨w3.heap.size, 0, none⟩) 0 0).ownBlock = some b → ∀ a, q = some a → b ≠ a.block := fun b hb a ha => by
          have h1 := (hblk a ha).2
          cases hb
          rw [World.size_alloc] at h1
          show w3.heap.size ≠ a.block
          omega
        have hnx := Lib.hid (show xs.length = n from HN.out)
        clear con2 hrow hblk hmade HB4 hbel5 HB e1 e2
        unfold maxLen at hcm
        go_wp2
        go_loopw [5, 32] (fun o i wr => ∃ k : Nat, k ≤ n ∧ i = .int .i64 k ∧ wr.ownsRow w.heap.size 9 1 o k (((fromL 46 xs).take k).map strV) ∧ (∀ b, o.ownBlock = some b → ∀ a, q = some a → b ≠ a.block) ∧ StIn wr q n xs ∧ Below w.heap.size w wr) (fun _ i _ => n - (intOf i).toNat)
        case atStart => exact ⟨0, Nat.zero_le _, rfl, hown, hne5, hst, HB5⟩
        case round =>
          obtain ⟨k, hk, rfl, hownr, hner, hstr, hbr⟩ := hrel
          clear hst hown hne5 HB5
          by_cases hlt : k < n
          · obtain ⟨y, hy⟩ : ∃ y, xs.getD k [] = y := ⟨_, rfl⟩
            have HD := Lib.hid (show joinL 46 (xs.drop k) = y ++ restL 46 (xs.drop (k + 1)) by rw [drop_consS xs k (by rw [hnx.out]; exact hlt), join_rest, hy])
            have HF := Lib.hid (from_take 46 xs k (by rw [hnx.out]; exact hlt))
            have hsub := hstr.from (i := k + 1) hnc hnx.out
            have hsl := fun W => run_slice_fromS q n c k W hlt
            obtain ⟨b, oo, hqe, hbb, hc⟩ := hstr (by omega)
            have ck := hc k hlt
            rw [hy] at ck
            obtain ⟨p, hp, hpv⟩ := str_of y
            rw [hpv] at ck
            subst hp
            have hjd := JD.out k
            have hpz : p.size ≤ x.size := by rw [HD.out, List.length_append, ba_len] at hjd; omega
            have hrs := hbr.size
            subst hqe
            clear hpv hy hc
            go_wp2
            go_loop [8, 44] (fun d j => ∃ m : Nat, ∃ z : ByteArray, m ≤ n - (k + 1) ∧ j = .int .i64 m ∧ d = .string z ∧ z.size ≤ x.size ∧ Hid (joinL 46 (xs.drop k) = z.data.toList ++ restL 46 (xs.drop (k + 1 + m)))) (fun _ j => n - (k + 1) - (intOf j).toNat)
            case atStart => exact ⟨0, p, Nat.zero_le _, rfl, rfl, hpz, HD⟩
            case round =>
              obtain ⟨m, z, hm, rfl, rfl, hz, HZ⟩ := hrel
              by_cases hml : m < n - (k + 1)
              · obtain ⟨b2, o2, hq2, _, hc2⟩ := hsub (by omega)
                have ck2 := hc2 m hml
                have hdr : xs.drop (k + 1 + m) = (xs.drop (k + 1)).getD m [] :: xs.drop (k + 1 + (m + 1)) := by
                  rw [drop_consS xs (k + 1 + m) (by rw [hnx.out]; omega)]
                  simp [List.getD, List.getElem?_drop, Nat.add_assoc]
                generalize (xs.drop (k + 1)).getD m [] = y2 at *
                obtain ⟨r, hr, hrv⟩ := str_of y2
                rw [hrv] at ck2
                subst hr
                have HZ2 := Lib.hid (show joinL 46 (xs.drop k) = (z ++ ⟨#[46]⟩ ++ r).data.toList ++ restL 46 (xs.drop (k + 1 + (m + 1))) by
                  rw [HZ.out, hdr, ba_join]; simp [restL])
                have hjz := JD.out k
                have hzz : (z ++ ⟨#[46]⟩ ++ r).size ≤ x.size := by rw [HZ2.out, List.length_append, ba_len] at hjz; omega
                have hz1 : (z ++ ⟨#[46]⟩ : ByteArray).size = z.size + 1 := by rw [ByteArray.size_append]; rfl
                have hz2 : (z ++ ⟨#[46]⟩ ++ r).size = z.size + 1 + r.size := by rw [ByteArray.size_append, hz1]
                clear hc2 hrv hdr HZ hsub
                go_wp2
                go_round
                case rel => exact ⟨m + 1, _, by omega, by go_num, rfl, hzz, HZ2⟩
                case measure => simp [intOf]; omega
              · have HF2 := Lib.hid (show (fromL 46 xs).take (k + 1) = (fromL 46 xs).take k ++ [z.data.toList] by
                  rw [HF.out, HZ.out, List.drop_of_length_le (by rw [hnx.out]; omega)]; simp [restL])
                have HV := Lib.hid (show strV z.data.toList = .string z by unfold strV; simp)
                clear HZ HF hsub
                go_wp2_with (at_builtin; refine wpList_append_own_at _ rfl _ _ 34 rfl w.heap.size 9 i0 (.string ByteArray.empty) 1 16 Try.underlying34 hi0 hz0 hz1 hz2 rfl (by decide) _ _ _ rfl (hownr.alloc _) ⟨wr.heap.size, 0, none⟩ 1 1 [.string z] rfl rfl (cell_one_new _ _ _) (by simp [Value.oneCell']) (by unfold maxLen; omega) (by omega) (by simp; omega) ?_; intro v' w1 hown' hgrow _ hat)
                have hb1 : Below w.heap.size wr w1 := ((Below.refl _ wr).alloc hrs _).grown hgrow (by simp; omega) (fun b hb => (hownr.lt b hb).1)
                go_roundw
                case rel =>
                  refine ⟨k + 1, by omega, by go_num, by rw [HF2.out, List.map_append, List.map_cons, HV.out]; exact hown', fun b' hb' a ha => ?_, hstr.grown hgrow (fun a ha hr => hner _ hr a ha rfl), hbr.trans hb1⟩
                  rcases hat with h' | h'
                  · rw [h'] at hb'; exact hner b' hb' a ha
                  · rw [h'] at hb'
                    cases hb'
                    cases ha
                    rw [World.size_alloc]
                    show wr.heap.size + 1 ≠ b
                    omega
                case measure => simp [intOf]; omega
          · have HE := Lib.hid (show (fromL 46 xs).take k = fromL 46 xs from List.take_of_length_le (by rw [from_len, hnx.out]; omega))
            rw [HE.out] at hownr
            clear hstr hner HE
            go_wp2
            go_ret
            exact texts_row H.out (by rw [from_len, hnx.out]; omega) hownr hbr
    · have H := Lib.hid (U0.out (fun h => h1 h.2))
      clear U0 U1 U2 con2 con3 HP JS
      go_enter Try.func13, Try.ntmps13
      go_wp2_with fail
      refine con.mono ?_
      rintro e w2 ⟨x, rfl, hx, hbel⟩
      have e1 := str_eq x s
      rw [hx.out, HLs.out, if_pos rfl, decide_eq_false h1] at e1
      have e2 : (x.toList != s.toList) = true := by unfold bne; rw [e1]; rfl
      clear con hx h1
      go_wp2
      go_ret
      exact texts_none H.out hbel
  · have H := Lib.hid (U0.out (fun h => h0 h.1))
    have e1 : (pe == 0) = false := by rw [beq_eq_false_iff_ne]; exact h0
    have e2 : (pe != 0) = true := by unfold bne; rw [e1]; rfl
    clear h0 U0 U1 U2 con2 con3 HP JS
    go_enter Try.func13, Try.ntmps13
    go_wp2_with fail
    refine con.mono ?_
    rintro e w2 ⟨x, rfl, _, hbel⟩
    clear con
    go_wp2
    go_ret
    exact texts_none H.out hbel

end Go.Proofs.Ytcahakelihigdaa.Ref
