/- What these laws want besides. Conditions: as each says. -/
import Derived.Test.YtedglpfdibamdaaGreatDoorBaseF
import Derived.Shelf.Spec.DecodeRune
import Derived.Test.YtedglpfdibamdaaGreatDoorCards
import Derived.Test.YtedglpfdibamdaaGreatDoorTie
import Derived.Lib.LaidU8T
import Derived.PinnedBridge
import Derived.ProofKit
import Derived.OpenShut
import Derived.ShutString
import Derived.ChangeOld
import Derived.Deep.DeepHandedRow
import Derived.Lib.LaidTab
import Derived.Stop.LaidErr
import Derived.LaidMore
import Derived.Lay
namespace Go.Proofs.YtedglpfdibamdaaGreatDoor
open Go
variable {P : Program} {ops : Array Oper} {Q : Exit → Act → World → Prop} {md : Region.Mode} {S0 : World → Prop} {nd : Nat → Bool}
def anyQ (P : Program) (md : Region.Mode) (ops : Array Oper) (Q : Exit → Act → World → Prop) (nd : Nat → Bool) (S0 : World → Prop) : Nat → Array Bool → Act → World → Prop
  | 0, listed, a, w => Region.ready md ops listed = [] ∧ Q .normal a w
  | fuel + 1, listed, a, w => (Region.ready md ops listed = [] → Q .normal a w) ∧
    ∀ i ∈ Region.ready md ops listed, wpOp P ops Q i (fun a' w' => (nd i = true → S0 w') ∧ anyQ P md ops Q nd S0 fuel (listed.setIfInBounds i true) a' w') a w
theorem wpAny_of_anyQ : ∀ (fuel : Nat) (listed : Array Bool) (a : Act) (w : World), anyQ P md ops Q nd S0 fuel listed a w → wpAny P md ops Q fuel listed a w
  | 0, _, _, _, h => h
  | fuel + 1, _, _, _, h => ⟨h.1, fun i hi => wpOp_mono (fun _ _ h' => wpAny_of_anyQ fuel _ _ _ h'.2) (h.2 i hi)⟩
theorem anyQ_first {i : Nat} {oi : Oper} {v : Value} (hi : ops[i]? = some oi) (hsel : ∀ (j : Nat) (o : Oper) cs b, ops[j]? = some o → o.op ≠ .select cs b)
    (hQ : ∀ c a w, Q (.panic c) (a.put oi.dst v) w → Q (.panic c) a w)
    (hc : ∀ j oj, ops[j]? = some oj → j ≠ i → (∀ e ∈ oj.after, Region.binds md e = true → e.on ≠ i) → nd j = true) :
    ∀ (fuel : Nat) (listed : Array Bool) (a : Act) (w : World),
      (∀ j oj, ops[j]? = some oj → j ≠ i → listed.getD j true = false → (∀ e ∈ oj.after, Region.binds md e = true → e.on ≠ i) → oi.apart ops oj = true) →
      i ∈ Region.ready md ops listed → YieldsIf P ops S0 oi v a → S0 w →
      anyQ P md ops Q nd S0 fuel (listed.setIfInBounds i true) (a.put oi.dst v) w → anyQ P md ops Q nd S0 (fuel + 1) listed a w := by
  intro fuel
  induction fuel with
  | zero =>
    intro listed a w _ hr hy hS H
    refine ⟨fun h => (by rw [h] at hr; cases hr), fun j hj => ?_⟩
    by_cases hji : j = i
    · subst hji; exact hy.wpOp hi hS ⟨fun _ => hS, H⟩
    · have := ready_mono hj hji
      rw [H.1] at this
      cases this
  | succ fuel ih =>
    intro listed a w hfree hr hy hS H
    refine ⟨fun h => (by rw [h] at hr; cases hr), fun j hj => ?_⟩
    by_cases hji : j = i
    · subst hji; exact hy.wpOp hi hS ⟨fun _ => hS, H⟩
    · have h1 := H.2 j (ready_mono hj hji)
      obtain ⟨hjun, oj, hoj, hall⟩ := mem_ready.1 hj
      have hnot : ∀ e ∈ oj.after, Region.binds md e = true → e.on ≠ i := fun e he hb heq => by
        have h1 := hall e he hb
        have h0 := (mem_ready.1 hr).1
        rw [heq] at h1
        rcases Nat.lt_or_ge i listed.size with h' | h'
        · simp [h'] at h0 h1; rw [h0] at h1; cases h1
        · simp [Array.getElem?_eq_none h'] at h1
      have h2 := wpOp_putIf hoj (hfree j oj hoj hji hjun hnot) (fun cs b => hsel i oi cs b hi) (fun cs b => hsel j oj cs b hoj) hQ hy h1
      have hfree' : ∀ k ok, ops[k]? = some ok → k ≠ i → (listed.setIfInBounds j true).getD k true = false →
          (∀ e ∈ ok.after, Region.binds md e = true → e.on ≠ i) → oi.apart ops ok = true := fun k ok hk hki hun hno => by
        refine hfree k ok hk hki ?_ hno
        by_cases hjk : j = k
        · subst hjk; exact hjun
        · rw [getD_set_ne true hjk] at hun; exact hun
      have hnd := hc j oj hoj hji hnot
      refine wpOp_mono (fun a' w' h3 => ⟨h3.2.1, ih (listed.setIfInBounds j true) a' w' hfree' (ready_mono hr (Ne.symm hji)) h3.1 (h3.2.1 hnd) ?_⟩) h2
      rw [Array.setIfInBounds_comm _ _ hji]
      exact h3.2.2
def asksQ (md : Region.Mode) (ops : Array Oper) (nd : Nat → Bool) (i : Nat) : Bool := (List.range ops.size).all fun j => j == i || nd j || match ops[j]? with
  | some oj => oj.after.any (fun e => Region.binds md e && e.on == i)
  | none => true
theorem asksQ_spec {i : Nat} (h : asksQ md ops nd i = true) (j : Nat) (oj : Oper) (hj : ops[j]? = some oj) (hne : j ≠ i) (hno : ∀ e ∈ oj.after, Region.binds md e = true → e.on ≠ i) : nd j = true := by
  simp only [asksQ, List.all_eq_true, List.mem_range] at h
  have h1 := h j (Array.getElem?_eq_some_iff.1 hj).1
  simp only [hj, Bool.or_eq_true, beq_iff_eq, hne, false_or] at h1
  rcases h1 with h1 | h1
  · exact h1
  · obtain ⟨e, he, hb⟩ := Array.any_eq_true'.1 h1
    simp only [Bool.and_eq_true, beq_iff_eq] at hb
    exact absurd hb.2 (hno e he hb.1)
theorem region_anyQ {id : Nat} {a : Act} {w : World} (nd : Nat → Bool) (S0 : World → Prop) (hm : P.follows .mixedOrders = true)
    (h : anyQ P .any ops (NoPanic Q) nd S0 ops.size (Array.replicate ops.size false) a w.drew) : (Code.region id ops true).wp P Q a w :=
  Code.wp_mono NoPanic.imp (wp_region_any hm (wpAny_of_anyQ _ _ _ _ h))
theorem anyQ_take (i : Nat) {oi : Oper} {v : Value} {fuel : Nat} {listed : Array Bool} {a : Act} {w : World} (hi : ops[i]? = some oi)
    (hs : Region.noSelect ops = true) (hf : Region.free md ops listed i = true) (hr : (Region.ready md ops listed).contains i = true) (hk : asksQ md ops nd i = true)
    (hQ : ∀ c a w, Q (.panic c) (a.put oi.dst v) w → Q (.panic c) a w) (hy : YieldsIf P ops S0 oi v a) (hS : S0 w)
    (h : anyQ P md ops Q nd S0 fuel (listed.setIfInBounds i true) (a.put oi.dst v) w) : anyQ P md ops Q nd S0 (fuel + 1) listed a w :=
  anyQ_first hi (Region.noSelect_spec hs) hQ (asksQ_spec hk) fuel listed a w (Region.free_spec hi hf) (by simpa using hr) hy hS h
theorem anyQ_one (i : Nat) {fuel : Nat} {listed : Array Bool} {a : Act} {w : World} {o : Oper} (hr : Region.ready md ops listed = [i]) (ho : ops[i]? = some o)
    (h : ∀ K : Act → World → Prop, (∀ a' w', (nd i = true → S0 w') → anyQ P md ops Q nd S0 fuel (listed.setIfInBounds i true) a' w' → K a' w') →
      if Region.wanted o (yielded ops a.tmps) = true then Oper.wp P o a w K Q else K (a.put o.dst undef) w) : anyQ P md ops Q nd S0 (fuel + 1) listed a w := by
  refine ⟨fun h0 => (by rw [hr] at h0; cases h0), fun j hj => ?_⟩
  rw [hr] at hj
  obtain rfl : j = i := by simpa using hj
  have h1 := h (fun a' w' => (nd j = true → S0 w') ∧ anyQ P md ops Q nd S0 fuel (listed.setIfInBounds j true) a' w') fun _ _ hs ha => ⟨hs, ha⟩
  unfold wpOp
  simp only [ho]
  by_cases hw : Region.wanted o (yielded ops a.tmps) = true
  · rw [if_pos hw] at h1 ⊢; exact .inl h1
  · rw [if_neg hw] at h1 ⊢; exact h1
theorem anyQ_done {listed : Array Bool} {a : Act} {w : World} (hr : Region.ready md ops listed = []) (h : Q .normal a w) : ∀ fuel, anyQ P md ops (NoPanic Q) nd S0 fuel listed a w
  | 0 => ⟨hr, h⟩
  | _ + 1 => ⟨fun _ => h, by rw [hr]; simp⟩
theorem anyQ_list (L : Array Bool) {fuel : Nat} {listed : Array Bool} {a : Act} {w : World} (he : listed = L) (h : anyQ P md ops Q nd S0 fuel L a w) : anyQ P md ops Q nd S0 fuel listed a w := he ▸ h
end Go.Proofs.YtedglpfdibamdaaGreatDoor
namespace Go.Proofs.YtedglpfdibamdaaGreatDoor
open Go.RowKit
def inB (b : UInt8) (l : List UInt8) : Bool := l.contains b
end Go.Proofs.YtedglpfdibamdaaGreatDoor
namespace Go.Proofs.YtedglpfdibamdaaGreatDoor
open Go.RowKit
def marksL : List UInt8 := [33, 35, 36, 37, 38, 39, 42, 43, 45, 46, 94, 95, 96, 124, 126]
def letB (b : UInt8) : Bool := decide (97 ≤ (low b).toNat ∧ (low b).toNat ≤ 122)
def tokB (b : UInt8) : Bool := letB b || digitB b || inB b marksL
def tokL (l : List UInt8) : Bool := !l.isEmpty && l.all tokB
theorem indexByte_nonneg (l : List UInt8) (b : UInt8) : (0 ≤ Lib.indexByte l b) ↔ b ∈ l := by
  induction l with
  | nil => simp [Lib.indexByte]
  | cons x r ih =>
    unfold Lib.indexByte
    by_cases h : x = b
    · subst h; simp
    · rw [if_neg (by simpa using h), List.mem_cons, ← ih]
      have hge := Lib.indexByte_ge r b
      have hb : b ≠ x := Ne.symm h
      simp only [hb, false_or, beq_iff_eq]
      split <;> omega
theorem ltok (b : UInt8) (h : letB b = true) : tokB b = true := by simp [tokB, h]
theorem dtok (b : UInt8) (h : digitB b = true) : tokB b = true := by simp [tokB, h]
theorem mtok (b : UInt8) (h : letB b = false) (h' : digitB b = false) : tokB b = inB b marksL := by simp [tokB, h, h']
set_option maxHeartbeats 1000000 in
theorem isTokenByte_any (b : UInt8) (w : World) :
    Calls Tryz.prog 143 #[.int .u8 (b.toNat : Int)] w fun e w' => e = .returned (.bool (tokB b)) ∧ w = w' := by
  have hl := lowerByte_any b w
  have hlt := u8_lt (low b)
  have key : ∀ (d : Bool), digitB b = d → (letB b = true → tokB b = true) := fun _ _ h => ltok b h
  have hm : (letB b = false → digitB b = false → tokB b = inB b marksL) := mtok b
  have hidx : decide (0 ≤ Lib.indexByte marksL b) = inB b marksL := by
    unfold inB
    rw [Bool.eq_iff_iff, decide_eq_true_iff, indexByte_nonneg]
    simp
  have hsi := Tryz.strings_IndexByte ⟨#[33, 35, 36, 37, 38, 39, 42, 43, 45, 46, 94, 95, 96, 124, 126]⟩ (b.toNat : Int) w
  rw [show (b.toNat : Int).toNat.toUInt8 = b from by simp] at hsi
  have hsi2 : Calls Tryz.prog 182 #[.string ⟨#[33, 35, 36, 37, 38, 39, 42, 43, 45, 46, 94, 95, 96, 124, 126]⟩, .int .u8 (b.toNat : Int)] w fun e w' => e = .returned (.int .i64 (Lib.indexByte marksL b)) ∧ w' = w := hsi
  clear hsi
  by_cases hL : letB b = true
  · have HL := Lib.hid (ltok b hL)
    have hL' : 97 ≤ (low b).toNat ∧ (low b).toNat ≤ 122 := by simpa [letB] using hL
    clear hm hidx hsi2 hL key
    generalize low b = sm at *
    have d1 : decide ((97 : Int) ≤ (sm.toNat : Int)) = true := by simp; omega
    have d2 : decide ((sm.toNat : Int) ≤ (122 : Int)) = true := by simp; omega
    go_enter Tryz.func143, Tryz.ntmps143
    go_wp2_with (go_at_call 94; refine hl.mono ?_; rintro e w' ⟨rfl, rfl⟩)
    go_ret
    exact ⟨(by rw [HL.out]; try rfl), rfl⟩
  · have hLf : letB b = false := by simpa using hL
    have hL' : ¬ (97 ≤ (low b).toNat ∧ (low b).toNat ≤ 122) := by simpa [letB] using hL
    have HM := Lib.hid (hm hLf)
    clear hm hL hLf key
    by_cases hD : digitB b = true
    · have HL := Lib.hid (dtok b hD)
      clear hidx hsi2 HM
      have hd := isDigit_any b
      rw [hD] at hd
      clear hD
      generalize low b = sm at *
      by_cases h1 : 97 ≤ sm.toNat
      · have d1 : decide ((97 : Int) ≤ (sm.toNat : Int)) = true := by simp; omega
        have d2 : decide ((sm.toNat : Int) ≤ (122 : Int)) = false := by simp; omega
        clear hL' h1
        go_enter Tryz.func143, Tryz.ntmps143
        go_wp2_with (first | (go_at_call 94; refine hl.mono ?_; rintro e w' ⟨rfl, rfl⟩) | (go_at_call 148; refine (hd _).mono ?_; rintro e w' ⟨rfl, rfl⟩))
        go_ret
        exact ⟨(by rw [HL.out]; try rfl), rfl⟩
      · have d1 : decide ((97 : Int) ≤ (sm.toNat : Int)) = false := by simp; omega
        clear hL' h1
        go_enter Tryz.func143, Tryz.ntmps143
        go_wp2_with (first | (go_at_call 94; refine hl.mono ?_; rintro e w' ⟨rfl, rfl⟩) | (go_at_call 148; refine (hd _).mono ?_; rintro e w' ⟨rfl, rfl⟩))
        go_ret
        exact ⟨(by rw [HL.out]; try rfl), rfl⟩
    · have hDf : digitB b = false := by simpa using hD
      have HL := Lib.hid ((HM.out hDf).trans hidx.symm)
      have hd := isDigit_any b
      rw [hDf] at hd
      clear hD hDf HM hidx
      generalize low b = sm at *
      generalize Lib.indexByte marksL b = ix at *
      by_cases h1 : 97 ≤ sm.toNat
      · have d1 : decide ((97 : Int) ≤ (sm.toNat : Int)) = true := by simp; omega
        have d2 : decide ((sm.toNat : Int) ≤ (122 : Int)) = false := by simp; omega
        clear hL' h1
        go_enter Tryz.func143, Tryz.ntmps143
        go_wp2_with (first | (go_at_call 94; refine hl.mono ?_; rintro e w' ⟨rfl, rfl⟩) | (go_at_call 148; refine (hd _).mono ?_; rintro e w' ⟨rfl, rfl⟩) | (go_at_call 182; refine hsi2.mono ?_; rintro e w' ⟨rfl, hw⟩; subst hw))
        go_ret
        exact ⟨(by rw [HL.out]; try rfl), rfl⟩
      · have d1 : decide ((97 : Int) ≤ (sm.toNat : Int)) = false := by simp; omega
        clear hL' h1
        go_enter Tryz.func143, Tryz.ntmps143
        go_wp2_with (first | (go_at_call 94; refine hl.mono ?_; rintro e w' ⟨rfl, rfl⟩) | (go_at_call 148; refine (hd _).mono ?_; rintro e w' ⟨rfl, rfl⟩) | (go_at_call 182; refine hsi2.mono ?_; rintro e w' ⟨rfl, hw⟩; subst hw))
        go_ret
        exact ⟨(by rw [HL.out]; try rfl), rfl⟩
theorem all_drop (l : List UInt8) (k : Nat) (h : k < l.length) : (l.drop k).all tokB = (tokB (l.getD k 0) && (l.drop (k + 1)).all tokB) := by
  rw [drop_cons l k h, List.all_cons]
set_option maxHeartbeats 1000000 in
theorem Token_any (p : Option Addr) (n c : Nat) (bs : List UInt8) (w : World) (hx : bs.length = n) (hn : n ≤ 140737488355328) (hb : Lib.BytesIn w p n (Lib.numsL bs)) :
    Calls Tryz.prog 106 #[.slice p n c] w fun e w' => e = .returned (.bool (tokL bs)) ∧ w = w' := by
  go_enter Tryz.func106, Tryz.ntmps106
  go_wp2
  go_loop [7] (fun i => ∃ k : Nat, k ≤ n ∧ i = .int .i64 k ∧ Hid (bs.all tokB = (bs.drop k).all tokB)) (fun i => n - (intOf i).toNat)
  case atStart => exact ⟨0, Nat.zero_le _, rfl, rfl⟩
  case round =>
    obtain ⟨k, hk, rfl, HR⟩ := hrel
    by_cases hlt : k < n
    · obtain ⟨b, o, rfl, hc⟩ := hb.at (by omega)
      have hck : w.cell? ⟨b, o + k, none⟩ = some (.int .u8 ((bs.getD k 0).toNat : Int)) := by
        rw [← numsL_getD bs k (by omega)]
        exact hc k hlt
      have hd := HR.out.trans (all_drop bs k (by omega))
      have hne : bs.isEmpty = false := by cases bs with | nil => simp at hx; omega | cons a r => rfl
      clear hc HR hb
      generalize bs.getD k 0 = bk at *
      by_cases ht : tokB bk = true
      · have H := Lib.hid (show bs.all tokB = (bs.drop (k + 1)).all tokB by rw [hd, ht]; rfl)
        have htk := isTokenByte_any bk
        rw [ht] at htk
        clear hd hne ht
        go_wp2_with (go_at_call 143; refine (htk _).mono ?_; rintro e w' ⟨rfl, rfl⟩)
        go_round
        case rel => exact ⟨k + 1, by omega, by go_num, H⟩
        case measure => simp [intOf]; omega
      · have ht' : tokB bk = false := by simpa using ht
        have H := Lib.hid (show tokL bs = false by unfold tokL; rw [hd, ht']; simp)
        have htk := isTokenByte_any bk
        rw [ht'] at htk
        clear hd hne ht ht'
        go_wp2_with (go_at_call 143; refine (htk _).mono ?_; rintro e w' ⟨rfl, rfl⟩)
        go_ret
        exact ⟨(by rw [H.out]; try rfl), rfl⟩
    · have H := Lib.hid (show tokL bs = decide (0 < n) by
        unfold tokL
        rw [HR.out, List.drop_of_length_le (by omega)]
        cases bs with
        | nil => simp at hx; subst hx; rfl
        | cons a r => simp at hx; simp; omega)
      clear HR
      go_wp2
      go_ret
      exact ⟨(by rw [H.out]; try rfl), rfl⟩
end Go.Proofs.YtedglpfdibamdaaGreatDoor
namespace Go.Proofs.YtedglpfdibamdaaGreatDoor.Hdr
open Url
set_option linter.unusedVariables false
def trimB (l : List UInt8) : List UInt8 := ((l.dropWhile blankB).reverse.dropWhile blankB).reverse
def fieldB (f : Fld) : Bool := tokL f.1 && decide (trimB f.2 = f.2) && !f.2.contains 13 && !f.2.contains 10
def wrongF (f : Fld) (n : Nat) : Int := if fieldB f = true then (if 64 ≤ n then 3 else 0) else 2
def chopL (l : List UInt8) : List UInt8 := if l.getLast? = some 13 then l.dropLast else l
def lineL (t : List UInt8) : List UInt8 := chopL (aheadL 10 t)
def restL (t : List UInt8) : List UInt8 := (Host.tailL 10 t).getD []
def fieldL (l : List UInt8) : Fld := (aheadL 58 l, trimB ((Host.tailL 58 l).getD []))
def goH : Nat → List Fld → List UInt8 → Sum Int (List Fld × List UInt8)
  | 0, out, _ => .inr (out, [])
  | k + 1, out, t => if t = [] then .inr (out, []) else if lineL t = [] then .inr (out, restL t) else if (58 : UInt8) ∈ lineL t then (if wrongF (fieldL (lineL t)) out.length = 0 then goH k (out ++ [fieldL (lineL t)]) (restL t) else .inl (wrongF (fieldL (lineL t)) out.length)) else .inl 2
def parseH (t : List UInt8) : Sum Int (List Fld × List UInt8) := goH t.length [] t
theorem tail_len (c : UInt8) : ∀ t r : List UInt8, Host.tailL c t = some r → r.length < t.length
  | [], r, h => by cases h
  | b :: t, r, h => by
    unfold Host.tailL at h
    split at h
    · cases h; simp
    · have := tail_len c t r h; simp; omega
theorem rest_len (t : List UInt8) (h : t ≠ []) : (restL t).length < t.length := by
  unfold restL
  cases e : Host.tailL 10 t with
  | none => simp; exact List.length_pos_iff.2 h
  | some r => exact tail_len 10 t r e
theorem go_more : ∀ (k : Nat) (out : List Fld) (t : List UInt8), t.length ≤ k → goH (k + 1) out t = goH k out t
  | 0, out, t, h => by
    have h0 : t = [] := List.length_eq_zero_iff.1 (by omega)
    subst h0; simp [goH]
  | k + 1, out, t, h => by
    by_cases h0 : t = []
    · subst h0; simp [goH]
    · have hr := rest_len t h0
      have e := go_more k (out ++ [fieldL (lineL t)]) (restL t) (by omega)
      have g : ∀ j, goH (j + 1) out t = if t = [] then .inr (out, []) else if lineL t = [] then .inr (out, restL t) else if (58 : UInt8) ∈ lineL t then (if wrongF (fieldL (lineL t)) out.length = 0 then goH j (out ++ [fieldL (lineL t)]) (restL t) else .inl (wrongF (fieldL (lineL t)) out.length)) else .inl 2 := fun j => by conv => lhs; unfold goH
      rw [g, g, e]
theorem go_any (out : List Fld) (t : List UInt8) : ∀ k, t.length ≤ k → goH k out t = goH t.length out t := fun k h => by
  obtain ⟨d, rfl⟩ := Nat.exists_eq_add_of_le h
  induction d with
  | zero => rfl
  | succ d ih => rw [show t.length + (d + 1) = (t.length + d) + 1 from rfl, go_more _ _ _ (by omega), ih (by omega)]
end Go.Proofs.YtedglpfdibamdaaGreatDoor.Hdr
namespace Go.Proofs.YtedglpfdibamdaaGreatDoor.Hdr
open Url
set_option linter.unusedVariables false
theorem ahead_len (c : UInt8) (l : List UInt8) : (aheadL c l).length ≤ l.length := by unfold aheadL; exact (List.takeWhile_sublist _).length_le
theorem tail_lenD (c : UInt8) (l : List UInt8) : ((Host.tailL c l).getD []).length ≤ l.length := by
  cases e : Host.tailL c l with
  | none => simp
  | some r => have := tail_len c l r e; simp; omega
theorem trim_lenB (l : List UInt8) : (trimB l).length ≤ l.length := by
  unfold trimB
  rw [List.length_reverse]
  refine Nat.le_trans (List.dropWhile_sublist _).length_le ?_
  rw [List.length_reverse]
  exact (List.dropWhile_sublist _).length_le
theorem chop_len (l : List UInt8) : (chopL l).length ≤ l.length := by
  unfold chopL
  split
  · simp
  · exact Nat.le_refl _
theorem wrong_field (f : Fld) (n : Nat) (h : wrongF f n = 0) : fieldB f = true ∧ n < 64 := by
  unfold wrongF at h
  split at h
  · split at h
    · cases h
    · exact ⟨by assumption, by omega⟩
  · cases h
def Small (M : Nat) (f : Fld) : Prop := fieldB f = true ∧ f.1.length ≤ M ∧ f.2.length ≤ M
theorem go_small (M : Nat) : ∀ (k : Nat) (out : List Fld) (t : List UInt8) (l : List Fld) (b : List UInt8), (∀ f ∈ out, Small M f) → out.length ≤ 64 → t.length ≤ M → goH k out t = .inr (l, b) → (∀ f ∈ l, Small M f) ∧ l.length ≤ 64 ∧ b.length ≤ M
  | 0, out, t, l, b, ho, hn, ht, h => by
    simp only [goH, Sum.inr.injEq, Prod.mk.injEq] at h
    obtain ⟨rfl, rfl⟩ := h
    exact ⟨ho, hn, Nat.zero_le _⟩
  | k + 1, out, t, l, b, ho, hn, ht, h => by
    unfold goH at h
    have hr : (restL t).length ≤ t.length := tail_lenD 10 t
    split at h
    · simp only [Sum.inr.injEq, Prod.mk.injEq] at h
      obtain ⟨rfl, rfl⟩ := h
      exact ⟨ho, hn, Nat.zero_le _⟩
    · split at h
      · simp only [Sum.inr.injEq, Prod.mk.injEq] at h
        obtain ⟨rfl, rfl⟩ := h
        exact ⟨ho, hn, by omega⟩
      · split at h
        · split at h
          · rename_i hw
            obtain ⟨hf, hlt⟩ := wrong_field _ _ hw
            have hl : (lineL t).length ≤ t.length := Nat.le_trans (chop_len _) (ahead_len 10 t)
            refine go_small M k _ _ l b (fun f hm => ?_) (by simp; omega) (by omega) h
            rcases List.mem_append.1 hm with hm | hm
            · exact ho f hm
            · rw [List.mem_singleton.1 hm]
              exact ⟨hf, Nat.le_trans (ahead_len _ _) (by omega), Nat.le_trans (trim_lenB _) (Nat.le_trans (tail_lenD _ _) (by omega))⟩
          · cases h
        · cases h
theorem parse_small (t : List UInt8) (l : List Fld) (b : List UInt8) (h : parseH t = .inr (l, b)) : (∀ f ∈ l, Small t.length f) ∧ l.length ≤ 64 ∧ b.length ≤ t.length :=
  go_small t.length t.length [] t l b (fun f hf => by cases hf) (by simp) (Nat.le_refl _) h
end Go.Proofs.YtedglpfdibamdaaGreatDoor.Hdr
namespace Go.Proofs.YtedglpfdibamdaaGreatDoor.Hdr
open Go.RowKit Go.Shelf
set_option linter.unusedVariables false
def Dec (n b1 b2 b3 : Nat) (x : Nat × Nat) : Prop :=
  1 ≤ x.2 ∧ x.2 ≤ 4 ∧ x.2 ≤ n ∧ 128 ≤ x.1 ∧ x.1 ≤ 1114111 ∧ (1 < x.2 → 128 ≤ b1) ∧ (2 < x.2 → 128 ≤ b2) ∧ (3 < x.2 → 128 ≤ b3) ∧
    (x.1 ≠ 65533 → (x.2 = 2 ∧ x.1 < 2048) ∨ (x.2 = 3 ∧ 2048 ≤ x.1 ∧ x.1 < 65536 ∧ (x.1 < 55296 ∨ 57344 ≤ x.1)) ∨ (x.2 = 4 ∧ 65536 ≤ x.1))
theorem dec_n (n b0 b1 b2 b3 : Nat) (hn : 0 < n) (h0 : 128 ≤ b0) (l0 : b0 < 256) : Dec n b1 b2 b3 (Lib.decodeN n b0 b1 b2 b3) := by
  unfold Lib.decodeN
  rw [if_neg (by omega)]
  repeat' split
  all_goals (unfold Dec; dsimp only; refine ⟨by omega, by omega, by omega, by omega, by omega, fun h => by omega, fun h => by omega, fun h => by omega, fun h => ?_⟩)
  all_goals first
    | exact absurd rfl h
    | exact .inl ⟨rfl, by omega⟩
    | exact .inr (.inl ⟨rfl, by omega, by omega, by omega⟩)
    | exact .inr (.inr ⟨rfl, by omega⟩)
theorem get_bang (l : List UInt8) (i : Nat) : (⟨l.toArray⟩ : ByteArray).get! i = l.getD i 0 := by
  show l.toArray[i]! = _
  rw [List.getElem!_toArray]
  simp [List.getD, getElem!_def]
  cases l[i]? <;> rfl
set_option maxRecDepth 100000 in
theorem enc_of (r k : Nat) (h0 : 128 ≤ r) (h1 : r ≤ 1114111) (h : (k = 2 ∧ r < 2048) ∨ (k = 3 ∧ 2048 ≤ r ∧ r < 65536 ∧ (r < 55296 ∨ 57344 ≤ r)) ∨ (k = 4 ∧ 65536 ≤ r)) :
    (Utf8.encode (r : Int)).size = k ∧ ∃ y z, (Utf8.encode (r : Int)).data.toList = y :: z ∧ 128 ≤ y.toNat := by
  have hv : Utf8.valid (r : Int) = true := by
    unfold Utf8.valid
    simp only [Bool.or_eq_true, Bool.and_eq_true, decide_eq_true_eq]
    omega
  unfold Utf8.encode
  rw [if_pos hv, Int.toNat_natCast]
  simp only
  rcases h with ⟨rfl, h⟩ | ⟨rfl, h2, h3, h4⟩ | ⟨rfl, h⟩
  · rw [if_neg (by omega), if_pos (by omega)]
    exact ⟨rfl, _, _, rfl, by simp only [UInt8.toNat_ofNat']; omega⟩
  · rw [if_neg (by omega), if_neg (by omega), if_pos (by omega)]
    exact ⟨rfl, _, _, rfl, by simp only [UInt8.toNat_ofNat']; omega⟩
  · rw [if_neg (by omega), if_neg (by omega), if_neg (by omega)]
    exact ⟨rfl, _, _, rfl, by simp only [UInt8.toNat_ofNat']; omega⟩
def crC : List UInt8 := [13, 10]
def crB (l : List UInt8) : Bool := l.contains 13 || l.contains 10
theorem cr_mem (l : List UInt8) : crB l = true ↔ ∃ x ∈ l, x ∈ crC := by
  unfold crB crC
  simp only [Bool.or_eq_true, List.contains_iff_mem, List.mem_cons, List.not_mem_nil, or_false]
  exact ⟨fun h => h.elim (fun h => ⟨13, h, .inl rfl⟩) (fun h => ⟨10, h, .inr rfl⟩), fun ⟨x, hx, h⟩ => h.elim (fun e => .inl (e ▸ hx)) (fun e => .inr (e ▸ hx))⟩
theorem cr_first : ∀ l : List UInt8, ∃ k, (∀ j, j < k → l.getD j 0 ∉ crC) ∧ (k = l.length ∨ (k < l.length ∧ l.getD k 0 ∈ crC)) ∧ crB l = decide (k < l.length)
  | [] => ⟨0, fun j h => absurd h (by omega), .inl rfl, by rfl⟩
  | x :: r => by
    by_cases hx : x ∈ crC
    · refine ⟨0, fun j h => absurd h (by omega), .inr ⟨by simp, hx⟩, ?_⟩
      rw [(cr_mem _).2 ⟨x, by simp, hx⟩]; simp
    · obtain ⟨k, h1, h2, h3⟩ := cr_first r
      refine ⟨k + 1, fun j hj => ?_, ?_, ?_⟩
      · cases j with
        | zero => exact hx
        | succ j => rw [List.getD_cons_succ]; exact h1 j (by omega)
      · rcases h2 with h | ⟨h, h'⟩
        · exact .inl (by rw [List.length_cons, h])
        · exact .inr ⟨by rw [List.length_cons]; omega, by rw [List.getD_cons_succ]; exact h'⟩
      · have e : crB (x :: r) = crB r := by
          rw [Bool.eq_iff_iff, cr_mem, cr_mem]
          refine ⟨fun ⟨y, hy, hc⟩ => ?_, fun ⟨y, hy, hc⟩ => ⟨y, List.mem_cons_of_mem _ hy, hc⟩⟩
          rcases List.mem_cons.1 hy with rfl | hy
          · exact absurd hc hx
          · exact ⟨y, hy, hc⟩
        rw [e, h3, List.length_cons]
        simp
theorem dec_at (l : List UInt8) (j : Nat) (hj : j < l.length) (hx : 128 ≤ (l.getD j 0).toNat) :
    ∃ r k, Lib.decodeGo ⟨(l.drop j).toArray⟩ = (r, k) ∧ 1 ≤ k ∧ k ≤ 4 ∧ j + k ≤ l.length ∧ 128 ≤ r ∧ r ≤ 1114111 ∧ (∀ i, j ≤ i → i < j + k → 128 ≤ (l.getD i 0).toNat) ∧
      (r ≠ 65533 → (k = 2 ∧ r < 2048) ∨ (k = 3 ∧ 2048 ≤ r ∧ r < 65536 ∧ (r < 55296 ∨ 57344 ≤ r)) ∨ (k = 4 ∧ 65536 ≤ r)) := by
  have hs : (⟨(l.drop j).toArray⟩ : ByteArray).size = l.length - j := by
    show (l.drop j).toArray.size = _
    simp
  have hg : ∀ i, (⟨(l.drop j).toArray⟩ : ByteArray).get! i = l.getD (j + i) 0 := fun i => by
    rw [get_bang, List.getD, List.getElem?_drop, ← List.getD]
  have hd : Lib.decodeGo ⟨(l.drop j).toArray⟩ = Lib.decodeN (l.length - j) (l.getD j 0).toNat (l.getD (j + 1) 0).toNat (l.getD (j + 2) 0).toNat (l.getD (j + 3) 0).toNat := by
    unfold Lib.decodeGo
    rw [if_neg (by rw [hs]; omega), Lib.decode_at, hs, hg, hg, hg, hg, Nat.sub_zero]
    rfl
  have hD := dec_n (l.length - j) (l.getD j 0).toNat (l.getD (j + 1) 0).toNat (l.getD (j + 2) 0).toNat (l.getD (j + 3) 0).toNat (by omega) hx (l.getD j 0).toNat_lt
  rw [← hd] at hD
  obtain ⟨⟨r, k⟩, hrk⟩ : ∃ x, Lib.decodeGo ⟨(l.drop j).toArray⟩ = x := ⟨_, rfl⟩
  rw [hrk] at hD ⊢
  obtain ⟨h1, h2, h3, h4, h5, h6, h7, h8, h9⟩ := hD
  dsimp only at h1 h2 h3 h4 h5 h6 h7 h8 h9
  refine ⟨r, k, rfl, h1, h2, by omega, h4, h5, fun i hi hi2 => ?_, h9⟩
  rcases (show i = j ∨ i = j + 1 ∨ i = j + 2 ∨ i = j + 3 by omega) with rfl | rfl | rfl | rfl
  · exact hx
  · exact h6 (by omega)
  · exact h7 (by omega)
  · exact h8 (by omega)
end Go.Proofs.YtedglpfdibamdaaGreatDoor.Hdr
namespace Go.Proofs.YtedglpfdibamdaaGreatDoor.Hdr
open Go.RowKit Go.Shelf Url
attribute [local go_sem] Oper.semAt_some
def setRen : Go.Shelf.Ren := ⟨fun | 11 => 156 | 16 => 157 | n => n, fun | 0 => 0 | 3 => 3 | 4 => 4 | 5 => 5 | 9 => 9 | 27 => 207 | 31 => 242 | n => n, fun | n => n⟩
theorem set11 : Go.Proofs.SlLaysV.n11 Tryz.prog setRen := {
  mixed := by kernel_rfl
  f11 := Tryz.func156.trans (congrArg some (by kernel_rfl))
  t0 := Tryz.underlying0, a0 := Tryz.isAgg0, z0 := Tryz.sizeOf0, v0 := Tryz.zeroValue0
  t3 := Tryz.underlying3, a3 := Tryz.isAgg3, z3 := Tryz.sizeOf3, v3 := Tryz.zeroValue3
  t4 := Tryz.underlying4, a4 := Tryz.isAgg4, z4 := Tryz.sizeOf4, v4 := Tryz.zeroValue4
  t5 := Tryz.underlying5, a5 := Tryz.isAgg5, z5 := Tryz.sizeOf5, v5 := Tryz.zeroValue5
  t9 := Tryz.underlying9, a9 := Tryz.isAgg9, z9 := Tryz.sizeOf9, v9 := Tryz.zeroValue9
  t27 := Tryz.underlying207, a27 := Tryz.isAgg207, z27 := Tryz.sizeOf207 }
theorem set16 : Go.Proofs.SlLaysV.n16 Tryz.prog setRen := {
  mixed := by kernel_rfl
  f16 := Tryz.func157.trans (congrArg some (by kernel_rfl))
  t0 := Tryz.underlying0, a0 := Tryz.isAgg0, z0 := Tryz.sizeOf0, v0 := Tryz.zeroValue0
  t4 := Tryz.underlying4, a4 := Tryz.isAgg4, z4 := Tryz.sizeOf4, v4 := Tryz.zeroValue4
  t5 := Tryz.underlying5, a5 := Tryz.isAgg5, z5 := Tryz.sizeOf5, v5 := Tryz.zeroValue5
  t27 := Tryz.underlying207, a27 := Tryz.isAgg207, z27 := Tryz.sizeOf207
  t31 := Tryz.underlying242, a31 := Tryz.isAgg242, z31 := Tryz.sizeOf242, v31 := Tryz.zeroValue242 }
theorem info_set : (Tryz.prog.info? 207).map (fun i => (i.zero, i.size)) = some (some (.agg (Array.replicate 256 (.bool false))), 256) := by kernel_rfl
theorem set_zero : Tryz.zeroCells207 = Array.replicate 256 (.bool false) := by kernel_rfl
def decRen : Go.Shelf.Ren := ⟨fun | 32 => 158 | 49 => 194 | n => n, fun | 0 => 0 | 3 => 3 | 4 => 4 | 5 => 5 | 21 => 21 | 25 => 187 | 30 => 22 | 33 => 210 | 66 => 256 | 68 => 258 | 69 => 259 | n => n, fun | 2 => 2 | 3 => 3 | n => n⟩
theorem dec32 : Go.Proofs.Lays7.n32 Tryz.prog decRen := {
  mixed := by kernel_rfl
  f32 := Tryz.func158.trans (congrArg some (by kernel_rfl))
  f49 := Tryz.func194.trans (congrArg some (by kernel_rfl))
  t0 := Tryz.underlying0, a0 := Tryz.isAgg0, z0 := Tryz.sizeOf0, v0 := Tryz.zeroValue0, i0 := by kernel_rfl
  t3 := Tryz.underlying3, a3 := Tryz.isAgg3, z3 := Tryz.sizeOf3, v3 := Tryz.zeroValue3, i3 := by kernel_rfl
  t4 := Tryz.underlying4, a4 := Tryz.isAgg4, z4 := Tryz.sizeOf4, v4 := Tryz.zeroValue4, i4 := by kernel_rfl
  t5 := Tryz.underlying5, a5 := Tryz.isAgg5, z5 := Tryz.sizeOf5, v5 := Tryz.zeroValue5, i5 := by kernel_rfl
  t21 := Tryz.underlying21, a21 := Tryz.isAgg21, z21 := Tryz.sizeOf21, v21 := Tryz.zeroValue21, i21 := by kernel_rfl
  t25 := Tryz.underlying187, a25 := Tryz.isAgg187, z25 := Tryz.sizeOf187, v25 := Tryz.zeroValue187, i25 := by kernel_rfl
  t30 := Tryz.underlying22, a30 := Tryz.isAgg22, z30 := Tryz.sizeOf22, v30 := Tryz.zeroValue22, i30 := by kernel_rfl
  t33 := Tryz.underlying210, a33 := Tryz.isAgg210, z33 := Tryz.sizeOf210, v33 := Tryz.zeroValue210, i33 := by kernel_rfl
  t66 := Tryz.underlying256, a66 := Tryz.isAgg256, z66 := Tryz.sizeOf256
  t68 := Tryz.underlying258, a68 := Tryz.isAgg258, z68 := Tryz.sizeOf258, v68 := Tryz.zeroValue258, i68 := by kernel_rfl
  t69 := Tryz.underlying259, a69 := Tryz.isAgg259, z69 := Tryz.sizeOf259, v69 := Tryz.zeroValue259, i69 := by kernel_rfl
  g2 := by kernel_rfl
  g3 := by kernel_rfl }
def Ug (w : World) : Prop := (∃ m, w.cell? ⟨0, 0, none⟩ = some (.int .i64 m)) ∧ Lib.Utf8Tabs 2 3 w
theorem Ug.on {w w' : World} (h : Ug w) (hk : Below w.heap.size w w') : Ug w' := by
  obtain ⟨⟨m, hm⟩, h1, h2⟩ := h
  refine ⟨⟨m, (World.cell?_of_block (hk.block _ (World.block_lt_of_cell? w _ hm))).trans hm⟩, fun c hc => ?_, fun i hi => ⟨?_, ?_⟩⟩
  · have := h1 c hc
    exact (World.cell?_of_block (hk.block _ (World.block_lt_of_cell? w _ this))).trans this
  · have := (h2 i hi).1
    exact (World.cell?_of_block (hk.block _ (World.block_lt_of_cell? w _ this))).trans this
  · have := (h2 i hi).2
    exact (World.cell?_of_block (hk.block _ (World.block_lt_of_cell? w _ this))).trans this
theorem decode_any (b o n c j : Nat) (l : List UInt8) (w : World) (hT : Lib.Utf8Tabs 2 3 w) (hl : l.length = n) (hj : j < n) (hc : ∀ i, i < n → w.cell? ⟨b, o + i, none⟩ = some (.int .u8 ((Lib.numsL l).getD i 0))) :
    Calls Tryz.prog 158 #[.slice (some ⟨b, o + j, none⟩) (n - j) c] w fun e w' => e = .returned (.tuple #[.int .i32 (Lib.decodeGo ⟨(l.drop j).toArray⟩).1, .int .i64 (Lib.decodeGo ⟨(l.drop j).toArray⟩).2]) ∧ Below w.heap.size w w' := by
  have hs : (⟨(l.drop j).toArray⟩ : ByteArray).size = n - j := by
    show (l.drop j).toArray.size = _
    simp [hl]
  have con := Any7.utf8_DecodeRune dec32 ⟨(l.drop j).toArray⟩ b (o + j) c w hT (fun i hi => by
    rw [get_bang, List.getD, List.getElem?_drop, ← List.getD, Nat.add_assoc, hc (j + i) (by omega), numsL_getD _ _ (by omega)])
  rw [hs] at con
  exact con
theorem makeSet_any (w : World) : Calls Tryz.prog 156 #[.string ⟨crC.toArray⟩] w fun e w' => e = .returned (.tuple #[.agg (Lib.setCells crC), .bool true]) ∧ w' = w.alloc (.cells (Lib.setCells crC) 207) :=
  Any.bytes_makeASCIISet set11 (zero_of_info info_set).1 (zero_of_info info_set).2 ⟨crC.toArray⟩ w (by decide) (by
    intro j b hj
    have : b ∈ crC := List.mem_of_getElem? hj
    simp only [crC, List.mem_cons, List.not_mem_nil, or_false] at this
    rcases this with rfl | rfl <;> decide)
theorem has_any (b : Nat) (x : UInt8) (v : Bool) (w : World) (hc : w.cell? ⟨b, x.toNat, none⟩ = some (.bool v)) :
    Calls Tryz.prog 157 #[.pointer (some ⟨b, 0, none⟩), .int .u8 x.toNat] w fun e w' => e = .returned (.bool v) ∧ w' = w :=
  Any.bytes_asciiSet_contains set16 b x v w hc
set_option maxHeartbeats 1000000 in
theorem shouldUse_any (n : Int) (w : World) :
    Calls Tryz.prog 155 #[.int .i64 n] w fun e w' => e = .returned (.bool (decide (8 < n))) ∧ w' = w := by
  go_enter Tryz.func155, Tryz.ntmps155
  go_wp2
  go_ret
  exact ⟨rfl, rfl⟩
theorem run_indexCr (x : UInt8) (w : World) : (callFunc 153 #[.string ⟨#[13, 10]⟩, .int .u8 (x.toNat : Int)]).run Tryz.prog w = .ok (.value (.int .i64 (Lib.indexByte crC x))) w := by
  rw [run_callFunc_extern Tryz.func153 (by kernel_rfl) (by kernel_rfl) (by kernel_rfl) (e := Extern.BytealgIndexByte.indexByte) (by kernel_rfl), Lib.run_indexByteString]
  simp [Result.andThen, crC]
theorem cr_in (x : UInt8) (h : x ∈ crC) : decide (0 ≤ Lib.indexByte crC x) = true ∧ x.toNat < 128 := by
  simp only [crC, List.mem_cons, List.not_mem_nil, or_false] at h
  rcases h with rfl | rfl <;> decide
theorem cr_out (x : UInt8) (h : x ∉ crC) : decide (0 ≤ Lib.indexByte crC x) = false := by
  rw [← Lib.contains_iff_indexByte]
  simpa using h
def sepV (k n : Nat) : Int := if k < n then (k : Int) else -1
theorem cr_step (i : Nat) (h : i < 2) : ∃ x : Nat, x < 128 ∧ ∀ (w : World) (ty : TypeId), (Instr.next (.pointer (some ⟨w.heap.size, 0, none⟩)) true ty).run Tryz.prog (w.iter ⟨#[13, 10]⟩ i) = .ok (.tuple #[.bool true, .int .i64 i, .int .i32 x]) (w.iter ⟨#[13, 10]⟩ (i + 1)) := by
  rcases (show i = 0 ∨ i = 1 by omega) with rfl | rfl
  · exact ⟨13, by omega, fun w ty => run_next_ascii (P := Tryz.prog) w ⟨#[13, 10]⟩ 0 ty (by decide) (by decide)⟩
  · exact ⟨10, by omega, fun w ty => run_next_ascii (P := Tryz.prog) w ⟨#[13, 10]⟩ 1 ty (by decide) (by decide)⟩
theorem wrap_u8 (x : UInt8) : wrap32 (x.toNat : Int) = (x.toNat : Int) := by
  have := x.toNat_lt
  unfold wrap32
  omega
theorem run_slice_mid (b o n c j : Nat) (W : World) (h : j < c) (hn : j ≤ n) : (Instr.slice 22 (.slice (some ⟨b, o, none⟩) n c) (some (.int .i64 (j : Int))) none none).run Tryz.prog W = .ok (.slice (some ⟨b, o + j, none⟩) (n - j) (c - j)) W := by
  have h1 := run_slice_at (some ⟨b, o, none⟩) n c j W hn
  have h2 : subA (some ⟨b, o, none⟩) c j = some ⟨b, o + j, none⟩ := by
    unfold subA
    rw [if_neg (by omega), Option.map_some, Go.WideShapes.add_plain]
  rw [h2] at h1
  exact h1
theorem iter_below (w : World) (s : ByteArray) (i : Nat) : Below w.heap.size w (w.iter s i) := (Below.refl _ w).alloc (Nat.le_refl _) _
set_option maxRecDepth 100000 in
set_option maxHeartbeats 4000000 in
theorem IndexAny_one (q : Option Addr) (c k : Nat) (l : List UInt8) (w : World) (h : By w (.slice q 1 c) l) (hno : ∀ j, j < k → l.getD j 0 ∉ crC) (hk : k = 1 ∨ (k < 1 ∧ l.getD k 0 ∈ crC)) :
    Calls Tryz.prog 116 #[.slice q 1 c, .string ⟨#[13, 10]⟩] w fun e w' => e = .returned (.int .i64 (sepV k 1)) ∧ Below w.heap.size w w' := by
  obtain ⟨h1, h2, h3, h4, h5⟩ := h.at
  obtain ⟨b, o, rfl, hc⟩ := h5.at (by omega)
  have hc0 := hc 0 (by omega)
  rw [numsL_getD _ _ (by omega), Nat.add_zero] at hc0
  obtain ⟨x, hx⟩ : ∃ x, l.getD 0 0 = x := ⟨_, rfl⟩
  rw [hx] at hc0
  have hrun := run_indexCr x
  rcases hk with rfl | ⟨hk0, hk⟩
  · have hnot := hno 0 (by omega)
    rw [hx] at hnot
    have hix := cr_out x hnot
    by_cases h128 : x.toNat < 128
    · have d1 : decide ((128 : Int) ≤ (x.toNat : Int)) = false := by simp; omega
      clear hno hnot hc h5 h h1 hx
      generalize Lib.indexByte crC x = ix at *
      go_enter Tryz.func116, Tryz.ntmps116
      go_wp2
      go_ret
      exact ⟨rfl, Below.refl _ _⟩
    · have d1 : decide ((128 : Int) ≤ (x.toNat : Int)) = true := by simp; omega
      have hw32 := wrap_u8 x
      clear hno hnot hc h5 h h1 hx hrun hix
      go_enter Tryz.func116, Tryz.ntmps116
      go_wp2
      go_loopg [5] 2 (fun g _ wx => ∃ i : Nat, i + g = 2 ∧ wx = w.iter ⟨#[13, 10]⟩ i)
      case atStart => exact ⟨0, rfl, rfl⟩
      case round =>
        obtain ⟨i, hi, rfl⟩ := hrel
        cases gk with
        | zero =>
          obtain rfl : i = 2 := by omega
          have hnx := run_next_end (P := Tryz.prog) w ⟨#[13, 10]⟩ 2
          have hb := iter_below w ⟨#[13, 10]⟩ 2
          go_wp2
          go_ret
          exact ⟨rfl, hb⟩
        | succ g =>
          obtain ⟨y, hy, hnx⟩ := cr_step i (by omega)
          have hnx := hnx w
          have d2 : ((y : Int) == 65533) = false := by simp; omega
          go_wp2
          go_roundg g
          case measure => omega
          case rel => exact ⟨i + 1, by omega, rfl⟩
  · obtain rfl : k = 0 := by omega
    rw [hx] at hk
    obtain ⟨hix, h128⟩ := cr_in x hk
    have d1 : decide ((128 : Int) ≤ (x.toNat : Int)) = false := by simp; omega
    clear hno hk hc h5 h h1 hx
    generalize Lib.indexByte crC x = ix at *
    go_enter Tryz.func116, Tryz.ntmps116
    go_wp2
    go_ret
    exact ⟨rfl, Below.refl _ _⟩
theorem run_indexLong (y : ByteArray) (m : Int) (w : World) (hm : w.cell? ⟨0, 0, none⟩ = some (.int .i64 m)) (h3 : 3 ≤ y.size) (hb : (y.size : Int) ≤ m) :
    (callFunc 159 #[.string ⟨#[13, 10]⟩, .string y]).run Tryz.prog w = .ok (.value (.int .i64 (-1))) w := by
  rw [run_callFunc_extern Tryz.func159 (by kernel_rfl) (by kernel_rfl) (by kernel_rfl) (e := Extern.BytealgIndex.index) (by kernel_rfl), Lib.run_indexString ⟨#[13, 10]⟩ y w 0 m (by kernel_rfl) hm (by omega) hb (by decide)]
  have e : Lib.index (⟨#[13, 10]⟩ : ByteArray).data.toList y.data.toList = -1 := Lib.index_long (by have := Lib.size_eq y; show 2 ≤ _; omega) (fun e => by
    have h := congrArg List.length e
    have := Lib.size_eq y
    have h2 : y.data.toList.length = 2 := h
    omega)
  rw [e]
  simp [Result.andThen]
theorem enc_ne (y : ByteArray) (u : UInt8) (z : List UInt8) (h : y.data.toList = u :: z) (hu : 128 ≤ u.toNat) : (([13, 10] : List UInt8) == y.toList) = false := by
  rw [Lib.toList_data, h, beq_eq_false_iff_ne]
  intro e
  have e2 : (13 : UInt8) = u := (List.cons.inj e).1
  rw [← e2] at hu
  exact absurd hu (by decide)
set_option maxRecDepth 100000 in
set_option maxHeartbeats 16000000 in
theorem IndexAny_short (q : Option Addr) (n c k : Nat) (l : List UInt8) (w : World) (hG : Ug w) (h : By w (.slice q n c) l) (hn1 : n ≠ 1) (hn8 : n ≤ 8) (hno : ∀ j, j < k → l.getD j 0 ∉ crC) (hk : k = n ∨ (k < n ∧ l.getD k 0 ∈ crC)) :
    Calls Tryz.prog 116 #[.slice q n c, .string ⟨#[13, 10]⟩] w fun e w' => e = .returned (.int .i64 (sepV k n)) ∧ Below w.heap.size w w' := by
  obtain ⟨h1, h2, h3, h4, h5⟩ := h.at
  have H1 := Lib.hid h1
  have HB := Lib.hid h
  have HN := Lib.hid hno
  have HK := Lib.hid hk
  have HG := Lib.hid hG
  have H2 := Lib.hid h2
  have hkn : k ≤ n := by rcases hk with h | h <;> omega
  have hne : ((n : Int) == 1) = false := by simp; omega
  have h8 : decide ((8 : Int) < (n : Int)) = false := by simp; omega
  have con := shouldUse_any (n : Int) w
  rw [h8] at con
  clear h1 h4 h5 h hno hk hn1 h8 hG h2
  go_enter Tryz.func116, Tryz.ntmps116
  go_wp2_with fail
  refine con.mono ?_
  rintro e w' ⟨rfl, rfl⟩
  clear con
  go_wp2
  go_loopw [12] (fun i wr => ∃ j : Nat, j ≤ k ∧ i = .int .i64 j ∧ Below w'.heap.size w' wr) (fun i _ => n - (intOf i).toNat)
  case atStart => exact ⟨0, Nat.zero_le _, rfl, Below.refl _ _⟩
  case round =>
    obtain ⟨j, hj, rfl, hBr⟩ := hrel
    by_cases hjn : j < n
    · obtain ⟨b, o, rfl, hc⟩ := (HB.out.on hBr).at.2.2.2.2.at (by omega)
      have hc0 := hc j hjn
      have e1 := H1.out
      rw [numsL_getD _ _ (by omega)] at hc0
      obtain ⟨x, hx⟩ : ∃ x, l.getD j 0 = x := ⟨_, rfl⟩
      rw [hx] at hc0
      have hrun := run_indexCr x
      by_cases hjk : j < k
      · have hnot := HN.out j hjk
        rw [hx] at hnot
        have hix := cr_out x hnot
        by_cases h128 : x.toNat < 128
        · have d1 : decide ((x.toNat : Int) < (128 : Int)) = true := by simp; omega
          have hwr : wrap64 ((j : Int) + 1) = (j : Int) + 1 := by unfold wrap64; omega
          clear hnot hc hx e1
          generalize Lib.indexByte crC x = ix at *
          go_wp2
          go_roundw
          case rel => exact ⟨j + 1, by omega, by go_num, hBr⟩
          case measure => simp [intOf]; omega
        · have d1 : decide ((x.toNat : Int) < (128 : Int)) = false := by simp; omega
          have hw32 := wrap_u8 x
          have hG2 := HG.out.on hBr
          have con := decode_any b o n (c - j) j l wr hG2.2 e1 hjn hc
          obtain ⟨r, kk, hd, k1, k4, kn, r0, r1, hbig, henc⟩ := dec_at l j (by omega) (by rw [hx]; omega)
          rw [hd] at con
          have hjc : j < c := by have := H2.out; omega
          have hjk2 : j + kk ≤ k := by
            rcases HK.out with h | ⟨h, hm⟩
            · omega
            · by_cases hh : j + kk ≤ k
              · exact hh
              · have hb := hbig k (by omega) (by omega)
                simp only [crC, List.mem_cons, List.not_mem_nil, or_false] at hm
                rcases hm with hm | hm <;> rw [hm] at hb <;> exact absurd hb (by decide)
          have HE := Lib.hid henc
          clear henc hbig
          have hwr : wrap64 ((j : Int) + kk) = (j : Int) + kk := by unfold wrap64; omega
          have hsl := fun W => run_slice_mid b o n c j W hjc (Nat.le_of_lt hjn)
          have HKN := Lib.hid kn
          have HR0 := Lib.hid (And.intro r0 r1)
          clear hnot hc hx e1 hd hrun hix hG2 kn hjc r0 r1 h3 hkn
          go_wp2_with fail
          refine con.mono ?_
          rintro e wd ⟨rfl, hb⟩
          have hB2 := hBr.trans (hb.mono hBr.size)
          obtain ⟨m, hm⟩ := (HG.out.on hB2).1
          clear con hb hBr
          by_cases hr : r = 65533
          · subst hr
            go_wp2
            go_loopg [15] 2 (fun g _ wx => ∃ i : Nat, i + g = 2 ∧ wx = wd.iter ⟨#[13, 10]⟩ i)
            case atStart => exact ⟨0, rfl, rfl⟩
            case round =>
              obtain ⟨i, hi, rfl⟩ := hrel
              cases gk with
              | zero =>
                obtain rfl : i = 2 := by omega
                have hnx := run_next_end (P := Tryz.prog) wd ⟨#[13, 10]⟩ 2
                have hb := hB2.trans ((iter_below wd ⟨#[13, 10]⟩ 2).mono hB2.size)
                go_wp2
                go_roundw
                case rel => exact ⟨j + kk, hjk2, by go_num, hb⟩
                case measure => simp [intOf]; omega
              | succ g =>
                obtain ⟨y, hy, hnx⟩ := cr_step i (by omega)
                have hnx := hnx wd
                have d2 : ((65533 : Int) == (y : Int)) = false := by simp; omega
                go_wp2
                go_roundg g
                case measure => omega
                case rel => exact ⟨i + 1, by omega, rfl⟩
          · obtain ⟨hes, u, z, hu, hu2⟩ := enc_of r kk HR0.out.1 HR0.out.2 (HE.out hr)
            have dr : ((r : Int) != 65533) = true := by simp; omega
            by_cases hk2 : kk = 2
            · subst hk2
              have hne := enc_ne _ u z hu hu2
              clear HE hu hes
              go_wp2
              go_roundw
              case rel => exact ⟨j + 2, hjk2, by go_num, hB2⟩
              case measure => simp [intOf]; omega
            · have hk3 : 3 ≤ kk := by rcases HE.out hr with h | h | h <;> omega
              have d2 : ((2 : Int) == (kk : Int)) = false := by simp; omega
              by_cases hmk : (kk : Int) ≤ m
              · have d3 : decide ((kk : Int) ≤ m) = true := by simpa using hmk
                have hrl := run_indexLong (Utf8.encode (r : Int)) m wd hm (by omega) (by omega)
                clear HE hu hes
                go_wp2
                go_roundw
                case rel => exact ⟨j + kk, hjk2, by go_num, hB2⟩
                case measure => simp [intOf]; omega
              · have d3 : decide ((kk : Int) ≤ m) = false := by simpa using hmk
                clear HE hu hes
                go_wp2
                go_loopg [15] 2 (fun g _ wx => ∃ i : Nat, i + g = 2 ∧ wx = wd.iter ⟨#[13, 10]⟩ i)
                case atStart => exact ⟨0, rfl, rfl⟩
                case round =>
                  obtain ⟨i, hi, rfl⟩ := hrel
                  cases gk with
                  | zero =>
                    obtain rfl : i = 2 := by omega
                    have hnx := run_next_end (P := Tryz.prog) wd ⟨#[13, 10]⟩ 2
                    have hb := hB2.trans ((iter_below wd ⟨#[13, 10]⟩ 2).mono hB2.size)
                    go_wp2
                    go_roundw
                    case rel => exact ⟨j + kk, hjk2, by go_num, hb⟩
                    case measure => simp [intOf]; omega
                  | succ g =>
                    obtain ⟨y, hy, hnx⟩ := cr_step i (by omega)
                    have hnx := hnx wd
                    have d2 : ((r : Int) == (y : Int)) = false := by have := HR0.out.1; simp; omega
                    go_wp2
                    go_roundg g
                    case measure => omega
                    case rel => exact ⟨i + 1, by omega, rfl⟩
      · have hjk' : j = k := by omega
        have hin : x ∈ crC := HK.out.elim (fun h => absurd h (by omega)) (fun h => by rw [← hx, hjk']; exact h.2)
        obtain ⟨hix, h128⟩ := cr_in x hin
        have d1 : decide ((x.toNat : Int) < (128 : Int)) = true := by simp; omega
        have HV := Lib.hid (show sepV k n = (j : Int) by unfold sepV; rw [if_pos (by omega), hjk'])
        clear hin hc hx e1 hjk' hjk
        generalize Lib.indexByte crC x = ix at *
        go_wp2
        go_ret
        exact ⟨(by rw [HV.out]; try rfl), hBr⟩
    · have HV := Lib.hid (show sepV k n = (-1 : Int) by unfold sepV; rw [if_neg (by omega)])
      have hd : decide ((j : Int) < (n : Int)) = false := by simp; omega
      go_wp2
      go_ret
      exact ⟨(by rw [HV.out]; try rfl), hBr⟩
set_option maxRecDepth 1000000 in
set_option maxHeartbeats 8000000 in
theorem IndexAny_long (q : Option Addr) (n c k : Nat) (l : List UInt8) (w : World) (h : By w (.slice q n c) l) (hn8 : 8 < n) (hn47 : n ≤ 140737488355328) (hno : ∀ j, j < k → l.getD j 0 ∉ crC) (hk : k = n ∨ (k < n ∧ l.getD k 0 ∈ crC)) :
    Calls Tryz.prog 116 #[.slice q n c, .string ⟨#[13, 10]⟩] w fun e w' => e = .returned (.int .i64 (sepV k n)) ∧ Below w.heap.size w w' := by
  obtain ⟨hS1, hS2, hS3⟩ : (Lib.setCells crC).size = 256 ∧ (Lib.setCells crC).all (·.oneCell') = true ∧ ∀ x : UInt8, (Lib.setCells crC)[x.toNat]? = some (.bool (crC.contains x)) := ⟨Lib.setCells_size _, Lib.setCells_one _, Lib.setCells_at crC⟩
  have conM := fun w => makeSet_any w
  obtain ⟨S, hS⟩ : ∃ S, Lib.setCells crC = S := ⟨_, rfl⟩
  rw [hS] at hS1 hS2 hS3 conM
  have hsc : (storeCells ⟨w.heap.size + 1, 0, none⟩ S.toList 0).run Tryz.prog ((w.alloc (.cells S 207)).alloc (.cells (Array.replicate 256 (.bool false)) 207)) = .ok () ((w.alloc (.cells S 207)).alloc (.cells S 207)) := by
    have := run_storeCells_new (P := Tryz.prog) (w.alloc (.cells S 207)) 207 (Array.replicate 256 (.bool false)) S (by rw [hS1]; exact (zero_of_info info_set).2) (by rw [hS1, Array.size_replicate]) hS2
    simpa using this
  obtain ⟨W, hW⟩ : ∃ W, (w.alloc (.cells S 207)).alloc (.cells S 207) = W := ⟨_, rfl⟩
  have hB : Below w.heap.size w W := by rw [← hW]; exact ((Below.refl _ w).alloc (Nat.le_refl _) _).alloc (by simp) _
  have hcell : ∀ x : UInt8, W.cell? ⟨w.heap.size + 1, x.toNat, none⟩ = some (.bool (crC.contains x)) := fun x => by
    rw [← hW, World.cell?_alloc_at _ _ _ _ (by simp), hS3]
  obtain ⟨h1, h2, h3, h4, h5⟩ := (h.on hB).at
  have H1 := Lib.hid h1
  have H5 := Lib.hid h5
  have HN := Lib.hid hno
  have HK := Lib.hid hk
  have HC := Lib.hid hcell
  have hkn : k ≤ n := by rcases hk with h | h <;> omega
  have hne : ((n : Int) == 1) = false := by simp; omega
  have h8 : decide ((8 : Int) < (n : Int)) = true := by simp; omega
  have con := shouldUse_any (n : Int) w
  rw [h8] at con
  have conM := conM w
  rw [hW] at hsc
  clear h1 h4 h5 h hno hk h8 hcell hW hS hS3 hS2
  go_enter Tryz.func116, Tryz.ntmps116
  go_wp2_with fail
  refine con.mono ?_
  rintro e w' ⟨rfl, rfl⟩
  clear con
  go_wp2_with fail
  refine conM.mono ?_
  rintro e w2 ⟨rfl, rfl⟩
  clear conM
  go_wp2
  rw [set_zero, hsc]
  simp only [Result.andThen]
  rw [Oper.upon_skip]
  go_wp2
  go_loop [62] (fun i => ∃ j : Nat, j ≤ k ∧ i = .int .i64 j) (fun i => n - (intOf i).toNat)
  case atStart => exact ⟨0, Nat.zero_le _, rfl⟩
  case round =>
    obtain ⟨j, hj, rfl⟩ := hrel
    have hwr : wrap64 ((j : Int) + 1) = (j : Int) + 1 := by unfold wrap64; omega
    by_cases hjn : j < n
    · obtain ⟨b, o, rfl, hc⟩ := H5.out.at (by omega)
      have hc0 := hc j hjn
      have e1 := H1.out
      rw [numsL_getD _ _ (by omega)] at hc0
      obtain ⟨x, hx⟩ : ∃ x, l.getD j 0 = x := ⟨_, rfl⟩
      rw [hx] at hc0
      have hcx := HC.out x
      by_cases hjk : j < k
      · have hnot := HN.out j hjk
        rw [hx] at hnot
        rw [show crC.contains x = false by simpa using hnot] at hcx
        have con := has_any _ x _ _ hcx
        clear hnot hc hx e1 hcx
        go_wp2_with fail
        refine con.mono ?_
        rintro e w' ⟨rfl, rfl⟩
        clear con
        go_wp2
        go_round
        case rel => exact ⟨j + 1, by omega, by go_num⟩
        case measure => simp [intOf]; omega
      · have hjk' : j = k := by omega
        have hin : x ∈ crC := HK.out.elim (fun h => absurd h (by omega)) (fun h => by rw [← hx, hjk']; exact h.2)
        rw [show crC.contains x = true by simpa using hin] at hcx
        have con := has_any _ x _ _ hcx
        have HV := Lib.hid (show sepV k n = (j : Int) by unfold sepV; rw [if_pos (by omega), hjk'])
        clear hin hc hx e1 hjk' hjk hcx
        go_wp2_with fail
        refine con.mono ?_
        rintro e w' ⟨rfl, rfl⟩
        clear con
        go_wp2
        go_ret
        exact ⟨(by rw [HV.out]; try rfl), hB⟩
    · have HV := Lib.hid (show sepV k n = (-1 : Int) by unfold sepV; rw [if_neg (by omega)])
      have hd : decide ((j : Int) < (n : Int)) = false := by simp; omega
      go_wp2
      go_ret
      exact ⟨(by rw [HV.out]; try rfl), hB⟩
theorem ContainsAny_cr (q : Option Addr) (n c : Nat) (l : List UInt8) (w : World) (hG : Ug w) (h : By w (.slice q n c) l) (hn47 : n ≤ 140737488355328) :
    Calls Tryz.prog 77 #[.slice q n c, .string ⟨#[13, 10]⟩] w fun e w' => e = .returned (.bool (crB l)) ∧ Below w.heap.size w w' := by
  obtain ⟨k, hno, hk, hcr⟩ := cr_first l
  rw [h.at.1] at hk hcr
  rw [hcr]
  have con : Calls Tryz.prog 116 #[.slice q n c, .string ⟨#[13, 10]⟩] w fun e w' => e = .returned (.int .i64 (sepV k n)) ∧ Below w.heap.size w w' := by
    by_cases h1 : n = 1
    · subst h1; exact IndexAny_one q c k l w h hno hk
    · by_cases h8 : n ≤ 8
      · exact IndexAny_short q n c k l w hG h h1 h8 hno hk
      · exact IndexAny_long q n c k l w h (by omega) hn47 hno hk
  have HV := Lib.hid (show decide (k < n) = decide (0 ≤ sepV k n) by
    unfold sepV
    by_cases hkn : k < n
    · rw [if_pos hkn]; simp [hkn]
    · rw [if_neg hkn]; simp [hkn])
  clear h hno hk hcr hG
  generalize sepV k n = v at *
  go_enter Tryz.func77, Tryz.ntmps77
  go_wp2_with fail
  refine con.mono ?_
  rintro e w' ⟨rfl, hb⟩
  go_wp2
  go_ret
  exact ⟨(by rw [HV.out]; try rfl), hb⟩
end Go.Proofs.YtedglpfdibamdaaGreatDoor.Hdr
namespace Go.Proofs.YtedglpfdibamdaaGreatDoor.Hdr
open Go.RowKit Go.Shelf Url
theorem by_take {w : World} {q : Option Addr} {n c k : Nat} {l : List UInt8} (h : By w (.slice q n c) l) (hk : k ≤ n) : By w (.slice q k c) (l.take k) := by
  obtain ⟨h1, h2, h3, h4, h5⟩ := h.at
  exact By.of (by rw [List.length_take]; omega) (by omega) h3 (fun hq => (h4 hq).2) (bytes_take h5 h1 hk)
theorem by_lit (w : World) (cs : Array Value) (l : List UInt8) (fr : Nat × Nat) (n : Nat) (h : cs.toList = byV l) (hn : l.length = n) (hm : n ≤ maxLen) : By (w.alloc (.cells cs 5 fr)) (.slice (some ⟨w.heap.size, 0, none⟩) n n) l :=
  By.of hn (Nat.le_refl _) hm (fun h => by cases h) (by rw [← hn]; exact bytes_lit cs l fr h)
end Go.Proofs.YtedglpfdibamdaaGreatDoor.Hdr
namespace Go.Proofs.YtedglpfdibamdaaGreatDoor.Hdr
open Go Go.RowKit Go.Shelf Url
set_option linter.unusedVariables false
theorem blank_same (b : UInt8) : blankB b = blankB b := rfl
theorem dropWhile_drop (l : List UInt8) : ∀ f, f ≤ l.length → (∀ j, j < f → blankB (l.getD j 0) = true) → (f < l.length → blankB (l.getD f 0) = false) → l.dropWhile blankB = l.drop f := by
  induction l with
  | nil => intro f _ _ _; simp
  | cons x r ih =>
    intro f hf h1 h2
    cases f with
    | zero =>
      have := h2 (by simp)
      rw [List.getD_cons_zero] at this
      rw [List.dropWhile_cons, if_neg (by rw [this]; simp), List.drop_zero]
    | succ f =>
      have h0 := h1 0 (by omega)
      rw [List.getD_cons_zero] at h0
      rw [List.dropWhile_cons, if_pos h0, List.drop_succ_cons]
      refine ih f (by simp at hf; omega) (fun j hj => ?_) (fun hj => ?_)
      · have := h1 (j + 1) (by omega); rwa [List.getD_cons_succ] at this
      · have := h2 (by simp; omega); rwa [List.getD_cons_succ] at this
theorem getD_reverse (l : List UInt8) (j : Nat) (h : j < l.length) : l.reverse.getD j 0 = l.getD (l.length - 1 - j) 0 := by
  rw [List.getD, List.getElem?_reverse h, List.getD]
theorem trim_sub (l : List UInt8) (f e : Nat) (h : Trims l f e) : trimB l = sub l f e := by
  unfold trimB sub
  rcases h with ⟨rfl, rfl, h⟩ | ⟨h1, h2, h3, h4, h5, h6⟩
  · rw [dropWhile_drop l l.length (Nat.le_refl _) (fun j hj => by rw [blank_same]; exact h j hj) (fun hh => absurd hh (by omega))]
    simp
  · rw [dropWhile_drop l f (by omega) (fun j hj => by rw [blank_same]; exact h3 j hj) (fun _ => by rw [blank_same]; exact h4)]
    have hlen : (l.drop f).length = l.length - f := List.length_drop
    rw [dropWhile_drop (l.drop f).reverse (l.length - e) (by rw [List.length_reverse]; omega) (fun j hj => ?_) (fun hj => ?_)]
    · rw [List.drop_reverse, List.reverse_reverse, hlen]
      congr 1; omega
    · rw [getD_reverse _ _ (by omega), hlen, List.getD, List.getElem?_drop, ← List.getD, blank_same]
      exact h6 _ (by omega) (by omega)
    · rw [List.length_reverse, hlen] at hj
      rw [getD_reverse _ _ (by omega), hlen, List.getD, List.getElem?_drop, ← List.getD, blank_same]
      rw [show f + (l.length - f - 1 - (l.length - e)) = e - 1 by omega]
      exact h5
theorem ok_mem (c : UInt8) (l : List UInt8) : atOk c l = decide (c ∈ l) := by
  obtain ⟨_, h2, _⟩ := at_ahead c l
  by_cases h : c ∈ l
  · obtain ⟨x, y, rfl, hx⟩ := List.eq_append_cons_of_mem h
    rw [(ahead_yes c x y hx).2] at h2
    cases hk : atOk c (x ++ c :: y) with
    | true => simp
    | false => rw [hk] at h2; simp at h2
  · rw [(ahead_no c l h).2] at h2
    cases hk : atOk c l with
    | false => simp [h]
    | true => rw [hk] at h2; simp at h2
theorem len_ahead (c : UInt8) (l : List UInt8) : (aheadL c l).length ≤ l.length := by unfold aheadL; exact (List.takeWhile_sublist _).length_le
theorem len_tail (c : UInt8) (l : List UInt8) : ((Host.tailL c l).getD []).length ≤ l.length := by
  cases e : Host.tailL c l with
  | none => simp
  | some r => have := tail_len c l r e; simp; omega
theorem len_trim (l : List UInt8) : (trimB l).length ≤ l.length := by
  unfold trimB
  rw [List.length_reverse]
  refine Nat.le_trans (List.dropWhile_sublist _).length_le ?_
  rw [List.length_reverse]
  exact (List.dropWhile_sublist _).length_le
theorem goH_nil (k : Nat) (out : List Fld) : goH k out [] = .inr (out, []) := by cases k <;> simp [goH]
theorem goH_step (out : List Fld) (t : List UInt8) (h : t ≠ []) : goH t.length out t = if lineL t = [] then .inr (out, restL t) else if (58 : UInt8) ∈ lineL t then (if wrongF (fieldL (lineL t)) out.length = 0 then goH (restL t).length (out ++ [fieldL (lineL t)]) (restL t) else .inl (wrongF (fieldL (lineL t)) out.length)) else .inl 2 := by
  obtain ⟨n, hn⟩ : ∃ n, t.length = n + 1 := ⟨t.length - 1, by have := List.length_pos_iff.2 h; omega⟩
  have hr := rest_len t h
  have e := go_any (out ++ [fieldL (lineL t)]) (restL t) n (by omega)
  rw [hn]
  conv => lhs; unfold goH
  rw [if_neg h, e]
def fdV (l : List Fld) : List Value := l.flatMap fun f => [.string ⟨f.1.toArray⟩, .string ⟨f.2.toArray⟩]
theorem fdV_snoc (l : List Fld) (f : Fld) : fdV (l ++ [f]) = fdV l ++ [.string ⟨f.1.toArray⟩, .string ⟨f.2.toArray⟩] := by
  unfold fdV; rw [List.flatMap_append]; rfl
theorem cell_two_new (w : World) (x y : Value) (t : TypeId) : ∀ j u, [x, y][j]? = some u → (w.alloc (.cells #[x, y] t)).cell? ((⟨w.heap.size, 0, none⟩ : Addr).add j) = some u := by
  intro j u hj
  rw [Go.WideShapes.add_plain]
  have hn : (w.alloc (.cells #[x, y] t)).heap[w.heap.size]? = some (.cells #[x, y] t) := World.alloc_heap_new w _
  simp only [World.cell?, hn, Nat.zero_add]
  simpa using hj
theorem fdV_get : ∀ (m : List Fld) (i : Nat) (x : Fld), m[i]? = some x → (fdV m)[i * 2]? = some (.string ⟨x.1.toArray⟩) ∧ (fdV m)[i * 2 + 1]? = some (.string ⟨x.2.toArray⟩)
  | [], i, x, h => by simp at h
  | y :: r, 0, x, h => by
    simp at h; subst h
    exact ⟨rfl, rfl⟩
  | y :: r, i + 1, x, h => by
    have h' : r[i]? = some x := by simpa using h
    obtain ⟨h1, h2⟩ := fdV_get r i x h'
    have hv : fdV (y :: r) = .string ⟨y.1.toArray⟩ :: .string ⟨y.2.toArray⟩ :: fdV r := rfl
    rw [hv, show (i + 1) * 2 = i * 2 + 1 + 1 from by omega]
    exact ⟨by simpa using h1, by simpa using h2⟩
end Go.Proofs.YtedglpfdibamdaaGreatDoor.Hdr
namespace Go.Proofs.YtedglpfdibamdaaGreatDoor.policyCovers
open Go.ChangeShapes Go.WideShapes Go.ChangeAt Go.RowKit Go.Lib
set_option linter.unusedVariables false
theorem own : ownKnob Tryz.prog.godebug = none := by kernel_rfl
theorem laidOut : laidOutB Tryz.prog = true := by kernel_rfl
theorem gTab : Tryz.prog.globalNamed "internal/strconv.uint64pow10" = some 1 := by kernel_rfl
def IsRow (k : IntKind) (w : World) (a : Option Addr) (len cap : Nat) (zs : List Int) : Prop :=
  (a = none ∧ len = 0 ∧ cap = 0 ∧ zs = []) ∨
  ∃ x, a = some x ∧ len ≤ cap ∧ cap ≤ maxLen ∧ zs.length = cap ∧ (∀ i, i < zs.length → w.cell? (x.add i) = some (.int k (zs.getD i 0))) ∧ ∀ n ∈ zs, (Lit.int k n).wf = true
def Walks : Prop := ∀ (a0 : Option Addr) (len0 cap0 : Nat) (z0 : List Int) (a1 : Option Addr) (len1 cap1 : Nat) (z1 : List Int) (w : World), IsRow .u8 w a0 len0 cap0 z0 → IsRow .u8 w a1 len1 cap1 z1 → Url.Gl w → Hdr.Ug w →
  Calls Tryz.prog 5 #[.slice a0 len0 cap0, .slice a1 len1 cap1] w fun e w' => e = .returned (.bool true) ∧ Below w.heap.size w w'
theorem gl {W : World} (hL : laidMetH Tryz.prog Rows.policyCoversRow.laid W) (hsh : W.ShapedOpen Tryz.prog) : Url.Gl W := by
  refine ⟨?_, ?_⟩
  · exact cell_of_shapedOpen_int (t := 3) (zero := #[.int .i64 0]) hsh (by decide +kernel) (by kernel_rfl) rfl (by kernel_rfl) (by kernel_rfl) (by kernel_rfl)
  · have hL' : laidMet Tryz.prog Rows.policyCoversRow.laid W := by
      rw [MakeChecks.laidMetH_plain _ _ _ (by kernel_rfl)] at hL; exact hL
    exact Lib.tabIs_of_head (rest := [("unicode/utf8.acceptRanges", Rows.laid_unicode_utf8_acceptRanges), ("unicode/utf8.first", Rows.laid_unicode_utf8_first)]) (t := 224) (e := 189) (n := 20) (k := .u64) (zs := Lib.pow10Tab) (g := 1) gTab (by kernel_rfl) (by kernel_rfl) (by kernel_rfl) (by kernel_rfl) (by kernel_rfl) (show laidMet Tryz.prog [("internal/strconv.uint64pow10", Lib.tabData .u64 Lib.pow10Tab), ("unicode/utf8.acceptRanges", Rows.laid_unicode_utf8_acceptRanges), ("unicode/utf8.first", Rows.laid_unicode_utf8_first)] W from hL'.tail.tail)
def u8Ren : Go.Shelf.Ren := ⟨fun n => n, fun | 5 => 5 | 119 => 256 | 138 => 258 | 139 => 259 | n => n, fun | 3 => 2 | 4 => 3 | n => n⟩
theorem u8Types : Go.Proofs.U8Types Tryz.prog u8Ren := { t5 := Tryz.underlying5, t119 := Tryz.underlying256, t138 := Tryz.underlying258, t139 := Tryz.underlying259 }
theorem first_is : Rows.laid_unicode_utf8_first = firstData := Go.Pinned.utf8First_eq
theorem accept_is : Rows.laid_unicode_utf8_acceptRanges = acceptData := by kernel_rfl
theorem ug {W : World} (hL : laidMetH Tryz.prog Rows.policyCoversRow.laid W) (hsh : W.ShapedOpen Tryz.prog) : Hdr.Ug W := by
  refine ⟨?_, ?_⟩
  · exact cell_of_shapedOpen_int (t := 3) (zero := #[.int .i64 0]) hsh (by decide +kernel) (by kernel_rfl) rfl (by kernel_rfl) (by kernel_rfl) (by kernel_rfl)
  · have hL' : laidMet Tryz.prog Rows.policyCoversRow.laid W := by
      rw [MakeChecks.laidMetH_plain _ _ _ (by kernel_rfl)] at hL; exact hL
    exact utf8Tabs_of_readsT u8Types ⟨by kernel_rfl, by kernel_rfl, by kernel_rfl, by kernel_rfl, by kernel_rfl, by kernel_rfl, by kernel_rfl⟩ (first_is ▸ Lib.laidMet.reads hL' (by simp [Rows.policyCoversRow])) (accept_is ▸ Lib.laidMet.reads hL' (by simp [Rows.policyCoversRow]))
set_option maxRecDepth 100000 in
theorem contract (hw : Walks) (H : Type) (enc : TypeId × Value → H) (W : World) (base : Nat) (args : Array Value) (ds gs : List (DataW H)) (before : List MemPlace)
    (hval0 : ∀ (j : Nat) t v, Tryz.f5.params[j]? = some t → args[j]? = some v → Value.okWide Tryz.prog W .any base t v)
    (hW : DataW.Whole enc Tryz.prog Tryz.f5.params.toList Rows.policyCoversSpec.vars false W args.toList ds gs before) (hL : laidMetH Tryz.prog Rows.policyCoversRow.laid W) (hsh : W.ShapedOpen Tryz.prog) :
    Calls Tryz.prog 5 args W fun e W' => ∃ v, e = .returned v ∧ Rows.policyCoversSpec.post enc Tryz.prog Tryz.f5 false true false false W args v W' := by
  have hval : ∀ (j : Nat) t v, Tryz.f5.params[j]? = some t → args[j]? = some v → Value.okWide Tryz.prog W .any base t v := hval0
  have hW' := hW
  obtain ⟨p, q, hA0, hV, rfl, hfz, hnd⟩ := hW
  have hA : DataW.TrodAll enc Tryz.prog W 0 (fun _ => true) true Tryz.f5.params.toList args.toList ds p := hA0
  rw [Tryz.params5] at hA hval
  obtain ⟨v0, vs0, d0, ds0, p0, q0, hargs, rfl, rfl, h0, r0⟩ := trodAll_cons hA
  obtain ⟨v1, vs1, d1, ds1, p1, q1, rfl, rfl, rfl, h1, r1⟩ := trodAll_cons r0
  obtain ⟨rfl, rfl, rfl⟩ := trodAll_nil r1
  obtain rfl : args = #[v0, v1] := by cases args; simp_all
  obtain ⟨rfl, rfl⟩ := trodVars_none hV
  obtain ⟨a0, len0, cap0, rfl⟩ := okWide_slice Tryz.underlying22 (hval 0 22 v0 rfl rfl)
  have k0 := h0
  have lt0 : ∀ x ∈ p0, x.block < W.heap.size := by obtain ⟨m, hm⟩ := k0; exact DataW.trod_lt m _ _ _ hm
  obtain ⟨z0, w0⟩ : ∃ zs, IsRow .u8 W a0 len0 cap0 zs := by
    obtain ⟨fuel, hf⟩ := h0
    rcases open_ints Tryz.underlying22 Tryz.underlying5 (by kernel_rfl) hf with ⟨hcs, _⟩ | ⟨x, l, c, zs, hcs, _, hl, hm, hz, _, hcell, hwz⟩
    · simp [Value.cells] at hcs
      obtain ⟨rfl, rfl, rfl⟩ := hcs
      exact ⟨[], .inl ⟨rfl, rfl, rfl, rfl⟩⟩
    · simp [Value.cells] at hcs
      obtain ⟨rfl, rfl, rfl⟩ := hcs
      exact ⟨zs, .inr ⟨_, rfl, hl, hm, by simpa using hz, hcell, hwz⟩⟩
  obtain ⟨a1, len1, cap1, rfl⟩ := okWide_slice Tryz.underlying22 (hval 1 22 v1 rfl rfl)
  have k1 := h1
  have lt1 : ∀ x ∈ p1, x.block < W.heap.size := by obtain ⟨m, hm⟩ := k1; exact DataW.trod_lt m _ _ _ hm
  obtain ⟨z1, w1⟩ : ∃ zs, IsRow .u8 W a1 len1 cap1 zs := by
    obtain ⟨fuel, hf⟩ := h1
    rcases open_ints Tryz.underlying22 Tryz.underlying5 (by kernel_rfl) hf with ⟨hcs, _⟩ | ⟨x, l, c, zs, hcs, _, hl, hm, hz, _, hcell, hwz⟩
    · simp [Value.cells] at hcs
      obtain ⟨rfl, rfl, rfl⟩ := hcs
      exact ⟨[], .inl ⟨rfl, rfl, rfl, rfl⟩⟩
    · simp [Value.cells] at hcs
      obtain ⟨rfl, rfl, rfl⟩ := hcs
      exact ⟨zs, .inr ⟨_, rfl, hl, hm, by simpa using hz, hcell, hwz⟩⟩
  clear hA0 hval0
  refine (hw a0 len0 cap0 z0 a1 len1 cap1 z1 W w0 w1 (gl hL hsh) (ug hL hsh)).mono fun e W' ⟨he, bel⟩ => ?_
  subst he
  exact ⟨_, rfl, _, _, _, [], _, [], hW', trodAll_mk1 (shut_bool Tryz.underlying4 _), (trodAll_cons_mk (Below.trod laidOut (by kernel_rfl) (of_decide_eq_true (by kernel_rfl)) k0 bel lt0) (trodAll_cons_mk (Below.trod laidOut (by kernel_rfl) (of_decide_eq_true (by kernel_rfl)) k1 bel lt1) trodAll_mk0)), rfl, bel.frame _, fun h => by cases h⟩
theorem door_met (os : Os) : laidMet Tryz.prog Rows.policyCoversRow.laid ((World.laidAll Tryz.prog os Rows.policyCoversRow.laid).forCall (fun _ _ => 0) ⟨#[], #[.slice none 0 0, .slice none 0 0], []⟩).memory :=
  laidMet_laidAll _ (by kernel_rfl) (by kernel_rfl)
theorem reads (os : Os) {H : Type} (enc : TypeId × Value → H) : ∃ places, DataW.whole enc Tryz.prog ((World.laidAll Tryz.prog os Rows.policyCoversRow.laid).forCall (fun _ _ => 0) ⟨#[], #[.slice none 0 0, .slice none 0 0], []⟩).memory Tryz.f5.params.toList Rows.policyCoversSpec.vars false #[Value.slice none 0 0, Value.slice none 0 0].toList 8 = some ([.nil, .nil], [], places) :=
  ⟨[], by kernel_rfl⟩
set_option maxRecDepth 100000 in
theorem lifted (hw : Walks) (os : Os) (started : os.Started) (H : Type) (enc : TypeId × Value → H) (F : Stop.Interp) :
    ReturnsInHanded {} Tryz.checked os 5 .any ((OpenSpec.ofChange Rows.policyCoversSpec).preRow enc Tryz.prog Tryz.f5 Rows.policyCoversRow.domain false Rows.policyCoversRow.laid) (((OpenSpec.ofChange Rows.policyCoversSpec).at F).post enc Tryz.prog Tryz.f5 false true false false) := by
  obtain ⟨places, hx⟩ := reads os enc
  refine returnsInHanded_of_row (C := Tryz.checked) (s := OpenSpec.ofChange Rows.policyCoversSpec) own started (by kernel_rfl) Tryz.func5
    (witness_row_at (enc := enc) (C := Tryz.checked) false (World.laidAll Tryz.prog os Rows.policyCoversRow.laid) #[.slice none 0 0, .slice none 0 0] (World.laidAll_os _ _ _) (by kernel_rfl) (by kernel_rfl) (by kernel_rfl)
      (OpenSpec.preRow_of_cond 8 hx (by kernel_rfl) (fun k hk => by cases hk) (by kernel_rfl) (door_met os))) ?_
  intro W base args ds gs before hval hW _ _ _ hL hsh _
  exact contract hw H enc W base args ds gs before hval hW hL hsh
theorem said (hw : Walks) : Rows.PolicyCoversSaid :=
  OpenClaim.holds_of_cond 5 Tryz.f5 rfl rfl rfl rfl rfl rfl rfl ⟨rfl, rfl, rfl, rfl, rfl⟩ rfl rfl rfl rfl rfl (by kernel_rfl) Tryz.func5 (by kernel_rfl)
    (of_decide_eq_true (by kernel_rfl)) (by unfold Func.isWrapper; first | (rw [if_pos (by decide +kernel)]; kernel_rfl) | (rw [if_neg (by decide +kernel)]; exact ⟨rfl, rfl⟩))
    (fun os started H enc _ F => by rw [OpenClaim.pre_eq_preRow]; exact lifted hw os started H enc F)
theorem plain (f : FuncId) (fn : Func) (hf : Tryz.pinned.checked.prog.funcNamed "cordon/cordonlaw12.PolicyCovers" = some f) (hfn : Tryz.pinned.checked.prog.funcs[f]? = some fn) :
    false = Tryz.pinned.checked.prog.looks [] ∧ ∀ (j : Nat) t, fn.params[j]? = some t → Tryz.pinned.checked.prog.wantsStandIn t = false := by
  obtain rfl : f = 5 := Option.some.inj ((show Tryz.prog.funcNamed "cordon/cordonlaw12.PolicyCovers" = some 5 by kernel_rfl).symm.trans hf) |>.symm
  obtain rfl : fn = Tryz.f5 := (Option.some.inj (Tryz.func5.symm.trans hfn)).symm
  refine ⟨by kernel_rfl, fun j t ht => ?_⟩
  rw [Tryz.params5] at ht
  obtain rfl : t = 22 := by simpa using Array.mem_of_getElem? ht
  exact (show Tryz.prog.wantsStandIn 22 = false by kernel_rfl)
theorem card (hw : Walks) : Rows.PolicyCoversCardSaid :=
  Claim7.holds_tied_plain_at .later [] _ _ _ _ (said hw) (fun _ h => by cases h) (by kernel_rfl) (fun _ h => by cases h) policyCovers_row_tie rfl ⟨rfl, rfl⟩ (by kernel_rfl) rfl plain (by kernel_rfl)
end Go.Proofs.YtedglpfdibamdaaGreatDoor.policyCovers
namespace Go.Proofs.YtedglpfdibamdaaGreatDoor.Hdr
open Go.RowKit Go.Shelf Url
set_option linter.unusedVariables false
theorem ByA.keep {B : Nat} {w w' : World} {z : C3} {l : List UInt8} (h : ByA B w z l) (hk : Keep (fun b => B ≤ b) w w') : ByA B w' z l := by
  obtain ⟨q, n, c⟩ := z
  obtain ⟨h1, h2, h3, h4, h5⟩ := h.1.at
  exact ⟨By.of h1 h2 h3 (fun hq => (h4 hq).2) (bytes_keep h5 hk fun a ha h0 => h.2 a ha h0), h.2⟩
theorem ByA.mono {A B : Nat} {w : World} {z : C3} {l : List UInt8} (h : ByA B w z l) (hab : A ≤ B) : ByA A w z l := ⟨h.1, fun a ha h0 => Nat.le_trans hab (h.2 a ha h0)⟩
theorem ByA.nil (B : Nat) (w : World) : ByA B w (none, 0, 0) [] := ⟨by_nil w, fun _ h => by cases h⟩
theorem HdrIn.keep {B : Nat} {w w' : World} {q : Option Addr} {n c : Nat} {l : List Fld} (h : HdrIn B w q n c l) (hk : Keep (fun b => B ≤ b) w w') : HdrIn B w' q n c l := h.keepS hk fun _ h _ => h
theorem HdrIn.mono {A B : Nat} {w : World} {q : Option Addr} {n c : Nat} {l : List Fld} (h : HdrIn B w q n c l) (hab : A ≤ B) : HdrIn A w q n c l :=
  ⟨h.1, h.2.1, h.2.2.1, fun h0 => by
    obtain ⟨g, o, hq, hB, hg, hc⟩ := h.2.2.2 h0
    exact ⟨g, o, hq, Nat.le_trans hab hB, hg, hc⟩⟩
theorem hdr_open {W : World} {base n : Nat} {v : Value} {l : List Fld} (h : W.ownsRow base 138 2 v n (fdV l)) (hn : l.length = n) :
    ∃ q c, v = .slice q n c ∧ HdrIn base W q n c l ∧ (∀ a, q = some a → base ≤ a.block ∧ a.block < W.heap.size) := by
  rcases h.2 with ⟨rfl, hm⟩ | ⟨g, cap, cur, rfl, hb, hg, h1, h2, h3, h4⟩
  · have hz : n = 0 := by assumption
    subst hz
    have hz0 : l = [] := List.eq_nil_of_length_eq_zero hn
    subst hz0
    exact ⟨none, 0, rfl, HdrIn.nil _ _, fun a ha => by cases ha⟩
  · have hgl := (Array.getElem?_eq_some_iff.1 hg).1
    refine ⟨some ⟨g, 0, none⟩, cap, rfl, ⟨fun h => (by cases h), h1, hn, fun _ => ⟨g, 0, rfl, hb, hgl, fun i z hzi => ?_⟩⟩, fun a ha => by cases ha; exact ⟨hb, hgl⟩⟩
    have hi : i < l.length := (List.getElem?_eq_some_iff.1 hzi).1
    obtain ⟨e1, e2⟩ := fdV_get l i z hzi
    have hc : ∀ j u, j < n * 2 → (fdV l)[j]? = some u → cur[j]? = some u := fun j u hj hu => by
      rw [← h4, List.getElem?_take, if_pos hj] at hu
      simpa using hu
    simp only [World.cell?, hg, Nat.zero_add]
    exact ⟨hc _ _ (by omega) e1, hc _ _ (by omega) e2⟩
def pE (r : Sum Int (List Fld × List UInt8)) : Int := match r with | .inl e => e | .inr _ => 0
def pH (r : Sum Int (List Fld × List UInt8)) : List Fld := match r with | .inl _ => [] | .inr x => x.1
def pB (r : Sum Int (List Fld × List UInt8)) : List UInt8 := match r with | .inl _ => [] | .inr x => x.2
def ParseOut (r : Sum Int (List Fld × List UInt8)) (w : World) (e : Ending) (w' : World) : Prop :=
  ∃ (q : Option Addr) (n c : Nat) (q2 : Option Addr) (n2 c2 : Nat), e = .returned (.tuple #[.agg #[.slice q n c], .slice q2 n2 c2, .int .i64 (pE r)]) ∧ HdrIn w.heap.size w' q n c (pH r) ∧ ByA w.heap.size w' (q2, n2, c2) (pB r) ∧ Below w.heap.size w w'
end Go.Proofs.YtedglpfdibamdaaGreatDoor.Hdr
namespace Go.Proofs.YtedglpfdibamdaaGreatDoor.Hdr
open Go.RowKit Go.Shelf Url
attribute [local go_sem] Oper.semAt_some
set_option linter.unusedVariables false
theorem FB2.frozen {B : Nat} {cs : Array Value} {X : World} (h : FB2 B cs X) (i : Nat) : X.frozen? ⟨B, i, none⟩ = false := by
  simp [World.frozen?, show X.heap[B]? = _ from h]
theorem FB2.on {B : Nat} {cs : Array Value} {X Y : World} (h : FB2 B cs X) (hk : Below X.heap.size X Y) : FB2 B cs Y := (hk.block B (Array.getElem?_eq_some_iff.1 h).1).trans h
theorem FB2.new (w : World) (cs : Array Value) : FB2 w.heap.size cs (w.alloc (.cells cs 96)) := World.alloc_heap_new w _
theorem FB2.set {B : Nat} {cs : Array Value} {X : World} (h : FB2 B cs X) (i : Nat) (v : Value) : FB2 B (cs.setIfInBounds i v) (X.setCell ⟨B, i, none⟩ v) := by
  obtain ⟨hlt, hk⟩ := Array.getElem?_eq_some_iff.1 h
  show (X.heap.modify B _)[B]? = _
  rw [Array.getElem?_eq_getElem (by rw [Array.size_modify]; exact hlt), Array.getElem_modify_self, hk]
  rfl
theorem FB2.put {B : Nat} {X : World} {a0 a1 : Value} (h : FB2 B #[a0, a1] X) (v0 v1 : Value) :
    ∃ Y, (X.setCell ⟨B, 0, none⟩ v0).setCell ⟨B, 1, none⟩ v1 = Y ∧ FB2 B #[v0, v1] Y ∧ (∀ S : Nat → Prop, ¬ S B → Keep S X Y) ∧ ∀ M, M ≤ B → Below M X Y := by
  have h8 := (h.set 0 v0).set 1 v1
  simp only [List.setIfInBounds_toArray, List.set_cons_zero, List.set_cons_succ] at h8
  refine ⟨_, rfl, h8, fun S hS => ?_, fun M hM => ?_⟩
  · exact (Keep.setCell _ _ _ hS).trans (Keep.setCell _ _ _ hS)
  · exact ((Below.refl M X).setCell (p := ⟨B, 0, none⟩) hM v0).setCell (p := ⟨B, 1, none⟩) hM v1
theorem size_fld : (Tryz.prog.info? 96).map (·.size) = some 2 := by kernel_rfl
theorem ret_fld {fn : Func} {p : Tmp} (h : fn.results = #[.cell p 96]) (tmps : Array Value) (w : World) (B : Nat) (cs : Array Value) (hp : tmps.getD p undef = .pointer (some ⟨B, 0, none⟩)) (hU : FB2 B cs w) (hs : cs.size = 2) :
    (results fn tmps).run Tryz.prog w = .ok (.agg cs) w :=
  results_cell_row h tmps w B _ cs (0, 0) _ hp hU Tryz.underlying96 rfl (by rw [size_fld, hs])
end Go.Proofs.YtedglpfdibamdaaGreatDoor.Hdr
namespace Go.Proofs.YtedglpfdibamdaaGreatDoor.Hdr
open Go.RowKit Go.Shelf Url
attribute [local go_sem] Oper.semAt_some
set_option linter.unusedVariables false
def ByU (M : Nat) (w : World) (z : C3) (l : List UInt8) : Prop := By w (vC z) l ∧ ∀ a, z.1 = some a → 0 < z.2.1 → a.block < M
theorem ByU.below {M : Nat} {w w' : World} {z : C3} {l : List UInt8} (h : ByU M w z l) (hb : Below M w w') : ByU M w' z l := by
  obtain ⟨q, n, c⟩ := z
  obtain ⟨h1, h2, h3, h4, h5⟩ := h.1.at
  exact ⟨By.of h1 h2 h3 (fun hq => (h4 hq).2) (bytes_keep h5 (Keep.of_below hb) fun a ha h0 => h.2 a ha h0), h.2⟩
theorem by_keep {S : Nat → Prop} {w w' : World} {q : Option Addr} {n c : Nat} {l : List UInt8} (h : By w (.slice q n c) l) (hk : Keep S w w') (hS : ∀ a, q = some a → 0 < n → S a.block) : By w' (.slice q n c) l := by
  obtain ⟨h1, h2, h3, h4, h5⟩ := h.at
  exact By.of h1 h2 h3 (fun hq => (h4 hq).2) (bytes_keep h5 hk hS)
theorem row_bya {B : Nat} {w : World} {z : C3} {l : List UInt8} (h : w.ownsRow B 5 1 (vC z) l.length (byV l)) : ByA B w z l := ⟨By.row h, fun a ha _ => (h.lt a.block (by unfold vC; rw [ha]; rfl)).1⟩
theorem byU_of {w : World} {q : Option Addr} {n c : Nat} {l : List UInt8} (h : By w (.slice q n c) l) : ByU w.heap.size w (q, n, c) l := ⟨h, fun a ha h0 => by
  obtain ⟨b, o, hq, hc⟩ := h.at.2.2.2.2.at h0
  have h1 : q = some a := ha
  rw [h1] at hq
  cases hq
  exact World.block_lt_of_cell? w _ (hc 0 h0)⟩
theorem line_at (t : List UInt8) : lineL t = chopL (atFst 10 t) ∧ restL t = atSnd 10 t := by
  obtain ⟨h1, h2, h3⟩ := at_ahead 10 t
  unfold lineL restL
  rw [h1, h2]
  refine ⟨rfl, ?_⟩
  cases h : atOk 10 t with
  | true => rfl
  | false => rw [h3 h]; rfl
theorem field_at (l : List UInt8) : fieldL l = (atFst 58 l, trimB (atSnd 58 l)) ∧ ((58 : UInt8) ∈ l ↔ atOk 58 l = true) := by
  obtain ⟨h1, h2, h3⟩ := at_ahead 58 l
  refine ⟨?_, by rw [ok_mem]; simp⟩
  unfold fieldL
  rw [h1, h2]
  cases h : atOk 58 l with
  | true => rfl
  | false => rw [h3 h]; rfl
theorem chop_take (l : List UInt8) : chopL l = l.take (chopL l).length := by
  unfold chopL
  split
  · rw [List.length_dropLast, List.dropLast_eq_take]
  · rw [List.take_length]
theorem nums_byte (l : List UInt8) : ∀ x ∈ Lib.numsL l, 0 ≤ x ∧ x < 256 := fun x hx => by
  obtain ⟨b, _, rfl⟩ := List.mem_map.1 hx
  have := b.toNat_lt
  omega
theorem subA_block {q : Option Addr} {c i : Nat} {a : Addr} (h : subA q c i = some a) : ∃ a0, q = some a0 ∧ a.block = a0.block := by
  unfold subA at h
  split at h
  · exact ⟨a, h, rfl⟩
  · cases q with
    | none => cases h
    | some a0 =>
      cases h
      refine ⟨a0, rfl, ?_⟩
      show (a0.add i).block = a0.block
      unfold Addr.add
      split <;> rfl
theorem Cut_lf (q : Option Addr) (n c : Nat) (t : List UInt8) (a : Option Addr) (d M : Nat) (X : World) (hG : Ug X) (h : ByU M X (q, n, c) t) (hM : M ≤ X.heap.size) (hs : By X (.slice a 1 d) [10]) (hn : n ≤ 1048576) :
    Calls Tryz.prog 69 #[.slice q n c, .slice a 1 d] X fun e w' => ∃ z1 z2 : C3, e = .returned (.tuple #[vC z1, vC z2, .bool (atOk 10 t)]) ∧ ByU M w' z1 (atFst 10 t) ∧ ByU M w' z2 (atSnd 10 t) ∧ Below X.heap.size X w' := by
  obtain ⟨h1, h2, h3, h4, h5⟩ := h.1.at
  have h1 : t.length = n := h1
  obtain ⟨m, hm⟩ := hG.1
  refine (Tryz.bytes_Cut_all q a n c 1 d (Lib.numsL t) (Lib.numsL [10]) m X (by rw [Lib.numsL_length, h1]) rfl (nums_byte t) (nums_byte [10]) h5 hs.at.2.2.2.2 (fun hq => (h4 hq).2) h2 (by omega) (by omega) hm).mono ?_
  rintro e w' ⟨rfl, k, rfl⟩
  have hb : Below X.heap.size X (X.drewN k) := Go.below_drewN (Below.refl _ _) _
  rw [Lib.bytesOf_numsL, Lib.bytesOf_numsL, Lib.index_one]
  by_cases h0 : 0 ≤ Lib.indexByte t 10
  · obtain ⟨i, hi⟩ : ∃ i : Nat, Lib.indexByte t 10 = (i : Int) := ⟨(Lib.indexByte t 10).toNat, by omega⟩
    obtain ⟨e1, e2, e3⟩ := at_found 10 t i hi
    have hlt := index_lt t 10
    rw [hi] at hlt
    have hin : i < n := by omega
    rw [hi, e1, e2, e3]
    have y1 := by_take h.1 (Nat.le_of_lt hin)
    have y2 := h.1.sub (i := i + 1) (j := n) (by omega) (Nat.le_refl _)
    rw [show sub t (i + 1) n = t.drop (i + 1) by rw [← h1]; exact sub_from t (i + 1)] at y2
    refine ⟨(q, i, c), (subA q c (i + 1), n - (i + 1), c - (i + 1)), ?_, ⟨y1.on hb, fun a ha _ => h.2 a ha (by show 0 < n; omega)⟩, ⟨y2.on hb, fun a ha h' => ?_⟩, hb⟩
    · unfold Lib.cutV
      rw [if_pos (by omega)]
      rfl
    · obtain ⟨a0, h6, h7⟩ := subA_block ha
      rw [h7]
      exact h.2 a0 h6 (by show 0 < n; omega)
  · have hge := Lib.indexByte_ge t 10
    have hi : Lib.indexByte t 10 = -1 := by omega
    obtain ⟨e1, e2, e3⟩ := at_none 10 t hi
    rw [hi, e1, e2, e3]
    exact ⟨(q, n, c), (none, 0, 0), rfl, h.below (hb.mono hM), ⟨by_nil _, fun _ h => by cases h⟩, hb⟩
theorem chop_suffix (l : List UInt8) : Lib.hasSuffix l [13] = true ↔ l.getLast? = some 13 := by
  show List.isSuffixOf [13] l = true ↔ _
  rw [List.isSuffixOf_iff_suffix]
  refine ⟨fun ⟨t, ht⟩ => by rw [← ht]; simp, fun h => ?_⟩
  obtain ⟨ys, rfl⟩ := List.getLast?_eq_some_iff.1 h
  exact ⟨ys, rfl⟩
theorem Trim_cr (q : Option Addr) (n c : Nat) (l : List UInt8) (a : Option Addr) (d : Nat) (X : World) (h : By X (.slice q n c) l) (hs : By X (.slice a 1 d) [13]) :
    Calls Tryz.prog 70 #[.slice q n c, .slice a 1 d] X fun e w' => e = .returned (.slice q (chopL l).length c) ∧ w' = X := by
  obtain ⟨h1, h2, h3, h4, h5⟩ := h.at
  refine (Tryz.bytes_TrimSuffix_all q a n c 1 d (Lib.numsL l) (Lib.numsL [13]) X (by rw [Lib.numsL_length, h1]) rfl h2 (Nat.le_trans h2 (by unfold maxLen at h3; exact h3)) h5 hs.at.2.2.2.2).mono ?_
  rintro e w' ⟨rfl, rfl⟩
  refine ⟨?_, rfl⟩
  by_cases h0 : 0 < n
  · obtain ⟨b, o, rfl, _⟩ := h5.at h0
    show Ending.returned (Lib.bytesTrimSuffix b o n c (Lib.numsL l) (Lib.numsL [13])) = _
    unfold Lib.bytesTrimSuffix
    rw [Lib.bytesOf_numsL, Lib.bytesOf_numsL]
    by_cases hl : l.getLast? = some 13
    · rw [if_pos ((chop_suffix l).2 hl)]
      have : (chopL l).length = n - 1 := by unfold chopL; rw [if_pos hl, List.length_dropLast, h1]
      rw [this]
      rfl
    · rw [if_neg (fun h => hl ((chop_suffix l).1 h))]
      have : (chopL l).length = n := by unfold chopL; rw [if_neg hl, h1]
      rw [this]
  · have hn0 : n = 0 := by omega
    subst hn0
    obtain rfl : l = [] := List.eq_nil_of_length_eq_zero h1
    have hl : (chopL []).length = 0 := by decide
    rw [hl]
    unfold Lib.trimSuffixV
    split
    · unfold Lib.bytesTrimSuffix
      rw [if_neg (by decide)]
    · rfl
set_option maxRecDepth 100000 in
set_option maxHeartbeats 4000000 in
theorem nextLine_any (q : Option Addr) (n c : Nat) (t : List UInt8) (M : Nat) (w : World) (hG : Ug w) (h : ByU M w (q, n, c) t) (hM : M ≤ w.heap.size) (hn : n ≤ 1048576) :
    Calls Tryz.prog 42 #[.slice q n c] w fun e w' => ∃ z1 z2 : C3, e = .returned (.tuple #[vC z1, vC z2]) ∧ ByU M w' z1 (lineL t) ∧ ByU M w' z2 (restL t) ∧ Below w.heap.size w w' := by
  have hb1 : Below w.heap.size w (w.alloc (.cells #[.int .u8 10] 5)) := (Below.refl _ w).alloc (Nat.le_refl _) _
  have con := Cut_lf q n c t _ 1 M _ (hG.on hb1) (h.below (hb1.mono hM)) (Nat.le_trans hM hb1.size) (by_lit w #[.int .u8 10] [10] (0, 0) 1 rfl rfl (by decide)) hn
  have HL := Lib.hid (line_at t)
  have hM' := hM
  generalize atFst 10 t = L at *
  generalize atSnd 10 t = R at *
  generalize atOk 10 t = ok at *
  clear h hG
  go_enter Tryz.func42, Tryz.ntmps42
  go_wp2_with fail
  refine con.mono ?_
  rintro e w2 ⟨⟨q1, n1, c1⟩, ⟨q2, n2, c2⟩, rfl, hz1, hz2, hb⟩
  have B2 := hb1.trans (hb.mono hb1.size)
  have hb3 : Below w2.heap.size w2 (w2.alloc (.cells #[.int .u8 13] 5)) := (Below.refl _ w2).alloc (Nat.le_refl _) _
  have hM2 : M ≤ w2.heap.size := Nat.le_trans hM B2.size
  have y1 := hz1.below (hb3.mono hM2)
  have y2 := hz2.below (hb3.mono hM2)
  have B3 := B2.trans (hb3.mono B2.size)
  have con2 := Trim_cr q1 n1 c1 L _ 1 _ y1.1 (by_lit w2 #[.int .u8 13] [13] (0, 0) 1 rfl rfl (by decide))
  have hlen : (chopL L).length ≤ n1 := by
    have h1 : L.length = n1 := y1.1.at.1
    have := chop_len L
    omega
  have HY1 := Lib.hid (show ByU M (w2.alloc (.cells #[.int .u8 13] 5)) (q1, (chopL L).length, c1) (chopL L) from ⟨by
    have := by_take y1.1 hlen
    rwa [← chop_take L] at this, fun a ha h0 => y1.2 a ha (by show 0 < n1; have : 0 < (chopL L).length := h0; omega)⟩)
  have HY2 := Lib.hid y2
  generalize (chopL L).length = m at *
  clear con hb hb1 hz1 hz2 hb3 B2 y1 y2 hlen
  simp only [vC]
  go_wp2_with fail
  refine con2.mono ?_
  rintro e w4 ⟨rfl, hw⟩
  subst hw
  clear con2
  go_wp2
  go_ret2
  exact ⟨(q1, m, c1), (q2, n2, c2), rfl, by rw [HL.out.1]; exact HY1.out, by rw [HL.out.2]; exact HY2.out, B3⟩
def fieldO (l : List UInt8) : Fld := if (58 : UInt8) ∈ l then fieldL l else ([], [])
set_option maxRecDepth 100000 in
set_option maxHeartbeats 4000000 in
theorem fieldOf_any (q : Option Addr) (n c : Nat) (l : List UInt8) (w : World) (h : By w (.slice q n c) l) (hn : n ≤ 1048576) :
    Calls Tryz.prog 44 #[.slice q n c] w fun e w' => ∃ z1 z2 : C3, e = .returned (.agg #[vC z1, vC z2]) ∧ ByA w.heap.size w' z1 (fieldO l).1 ∧ ByA w.heap.size w' z2 (fieldO l).2 ∧ Below w.heap.size w w' := by
  obtain ⟨W0, hW0⟩ : ∃ Z, w.alloc (.cells #[.slice none 0 0, .slice none 0 0] 96) = Z := ⟨_, rfl⟩
  have hb0 : Below w.heap.size w W0 := hW0 ▸ (Below.refl _ w).alloc (Nat.le_refl _) _
  have f0 : FB2 w.heap.size #[.slice none 0 0, .slice none 0 0] W0 := hW0 ▸ FB2.new w _
  have hs0 := Lib.hid (show w.heap.size + 1 ≤ W0.heap.size by rw [← hW0]; simp)
  obtain ⟨h1, h2, h3, h4, h5⟩ := (h.on hb0).at
  have con := At_any q n c l 58 W0 h1 (by omega) h2 h4 h5
  have HF := Lib.hid (show fieldO l = if atOk 58 l = true then (atFst 58 l, trimB (atSnd 58 l)) else ([], []) by
    unfold fieldO
    rw [(field_at l).1]
    by_cases hm : (58 : UInt8) ∈ l
    · rw [if_pos hm, if_pos ((field_at l).2.1 hm)]
    · rw [if_neg hm, if_neg (fun hh => hm ((field_at l).2.2 hh))])
  have hl2 : (atSnd 58 l).length ≤ 1048576 := by
    have h1' := (at_ahead 58 l).2.1
    have h2' := len_tail 58 l
    have h3' := (at_ahead 58 l).2.2
    cases hh : atOk 58 l with
    | true => rw [h1', hh, if_pos rfl] at h2'; simp at h2'; omega
    | false => rw [h3' hh]; simp
  generalize fieldO l = F at *
  generalize atFst 58 l = x at *
  generalize atSnd 58 l = y at *
  generalize atOk 58 l = ok at *
  have HW0 := Lib.hid hW0
  clear h h1 h2 h3 h4 h5 hW0
  go_enter Tryz.func44, Tryz.ntmps44
  go_wp2_with fail
  rw [HW0.out]
  refine con.mono ?_
  rintro e w2 ⟨v1, v2, rfl, hr1, hr2, hb⟩
  obtain ⟨q1, c1, rfl, _⟩ := row_open hr1
  obtain ⟨q2, c2, rfl, _⟩ := row_open hr2
  have B2 := hb0.trans (hb.mono hb0.size)
  have f2 := f0.on hb
  have hs2 := hb.size
  replace hr1 := row_base hr1 hs0.out
  replace hr2 := row_base hr2 hs0.out
  clear con hb hb0 f0 HW0
  cases ok with
  | false =>
    have HF2 := Lib.hid (show F = ([], []) by rw [HF.out]; rfl)
    have kf0 := f2.frozen 0
    have kf1 := f2.frozen 1
    have z0 := f2.cell 0 _ rfl
    have z1 := f2.cell 1 _ rfl
    obtain ⟨Y, hY, bY, hkY, hBY⟩ := f2.put (.slice none 0 0) (.slice none 0 0)
    have BY := B2.trans (hBY _ (Nat.le_refl _))
    have HY := Lib.hid hY
    clear hY hr1 hr2 HF
    go_wp2
    rw [HY.out]
    refine bodyPost_ret (ret_fld rfl _ _ w.heap.size _ rfl bY rfl) rfl ?_
    exact ⟨(none, 0, 0), (none, 0, 0), rfl, by rw [HF2.out]; exact ByA.nil _ _, by rw [HF2.out]; exact ByA.nil _ _, BY⟩
  | true =>
    have HF2 := Lib.hid (show F = (x, trimB y) by rw [HF.out]; rfl)
    obtain ⟨f, ee, htr⟩ := trims y
    have hYv := By.row hr2
    have con := cutTrim_any q2 _ c2 f ee y w2 hYv.at.1 (by omega) hYv.at.2.1 hYv.at.2.2.2.2 htr
    rw [← trim_sub y f ee htr] at con
    generalize trimB y = yy at *
    clear HF hr2 hYv htr hl2
    go_wp2_with fail
    refine con.mono ?_
    rintro e w3 ⟨v5, rfl, hr5, hb⟩
    obtain ⟨q5, c5, rfl, _⟩ := row_open hr5
    have B3 := B2.trans (hb.mono B2.size)
    have f3 := f2.on hb
    replace hr5 := row_base hr5 (Nat.le_trans hs0.out hs2)
    replace hr1 := (Keep.of_below hb).row hr1 (fun b h => (hr1.lt b h).2)
    have kf0 := f3.frozen 0
    have kf1 := f3.frozen 1
    have z0 := f3.cell 0 _ rfl
    have z1 := f3.cell 1 _ rfl
    obtain ⟨Y, hY, bY, hkY, hBY⟩ := f3.put (.slice q1 x.length c1) (.slice q5 yy.length c5)
    have BY := B3.trans (hBY _ (Nat.le_refl _))
    have g1 := (hkY (fun b => b ≠ w.heap.size) (by simp)).row hr1 (fun k h => by have := (hr1.lt k h).1; omega)
    have g5 := (hkY (fun b => b ≠ w.heap.size) (by simp)).row hr5 (fun k h => by have := (hr5.lt k h).1; omega)
    have HY := Lib.hid hY
    clear con hb hY hr1 hr5 B2 f2
    go_wp2
    rw [HY.out]
    refine bodyPost_ret (ret_fld rfl _ _ w.heap.size _ rfl bY rfl) rfl ?_
    exact ⟨(q1, x.length, c1), (q5, yy.length, c5), rfl, by rw [HF2.out]; exact row_bya (row_base g1 (Nat.le_succ _)), by rw [HF2.out]; exact row_bya (row_base g5 (Nat.le_succ _)), BY⟩
theorem trim_same (v : List UInt8) : (((trimB v).length : Int) == (v.length : Int)) = decide (trimB v = v) := by
  rw [Bool.eq_iff_iff, beq_iff_eq, decide_eq_true_iff]
  refine ⟨fun h => ?_, fun h => by rw [h]⟩
  have hs : List.Sublist (trimB v) v := by
    unfold trimB
    have h1 := (List.dropWhile_sublist (p := blankB) (l := (v.dropWhile blankB).reverse)).reverse
    rw [List.reverse_reverse] at h1
    exact h1.trans (List.dropWhile_sublist _)
  exact hs.eq_of_length (by omega)
theorem field_is (f : Fld) : fieldB f = (tokL f.1 && (!crB f.2 && decide (trimB f.2 = f.2))) := by
  unfold fieldB crB
  cases tokL f.1 <;> cases decide (trimB f.2 = f.2) <;> cases f.2.contains 13 <;> cases f.2.contains 10 <;> rfl
set_option maxRecDepth 100000 in
set_option maxHeartbeats 8000000 in
theorem isField_any (q1 : Option Addr) (n1 c1 : Nat) (x : List UInt8) (q2 : Option Addr) (n2 c2 : Nat) (y : List UInt8) (w : World) (hG : Ug w) (h1 : By w (.slice q1 n1 c1) x) (h2 : By w (.slice q2 n2 c2) y) (l1 : n1 ≤ 1048576) (l2 : n2 ≤ 1048576) :
    Calls Tryz.prog 71 #[.agg #[.slice q1 n1 c1, .slice q2 n2 c2]] w fun e w' => e = .returned (.bool (fieldB (x, y))) ∧ Below w.heap.size w w' := by
  obtain ⟨W, hW⟩ : ∃ Z, w.alloc (.cells #[.slice q1 n1 c1, .slice q2 n2 c2] 96) = Z := ⟨_, rfl⟩
  have A0 : Below w.heap.size w W := hW ▸ (Below.refl _ w).alloc (Nat.le_refl _) _
  have g0 : FB2 w.heap.size #[.slice q1 n1 c1, .slice q2 n2 c2] W := hW ▸ FB2.new w _
  obtain ⟨W2, hW2⟩ : ∃ Z, W.drew = Z := ⟨_, rfl⟩
  have hd : Below W.heap.size W W2 := hW2 ▸ ⟨rfl, rfl, rfl, Nat.le_refl _, fun _ _ => rfl⟩
  have A := A0.trans (hd.mono A0.size)
  have g2 := g0.on hd
  have x0 := g2.cell 0 _ rfl
  have x1 := g2.cell 1 _ rfl
  have y1 := h1.on A
  have hG2 := hG.on A
  have hv2 := h2.on A
  have HT := Lib.hid (Token_any q1 n1 c1 x W2 y1.at.1 (by omega) y1.at.2.2.2.2)
  have HC := Lib.hid (fun X (hb : Below W2.heap.size W2 X) => ContainsAny_cr q2 n2 c2 y X (hG2.on hb) (hv2.on hb) (by omega))
  obtain ⟨f, ee, htr⟩ := trims y
  have HM := Lib.hid (show ∀ X (hb : Below W2.heap.size W2 X), Calls Tryz.prog 39 #[.slice q2 n2 c2] X fun e' w' => ∃ v', e' = .returned v' ∧ w'.ownsRow X.heap.size 5 1 v' (trimB y).length ((Lib.numsL (trimB y)).map (Value.int .u8)) ∧ Below X.heap.size X w' from fun X hb => by
    have hy := (hv2.on hb).at
    have := cutTrim_any q2 n2 c2 f ee y X hy.1 (by omega) hy.2.1 hy.2.2.2.2 htr
    rwa [← trim_sub y f ee htr] at this)
  have HF := Lib.hid (show fieldB (x, y) = (tokL x && (!crB y && decide (trimB y = y))) from field_is (x, y))
  have HS := Lib.hid (show (((trimB y).length : Int) == (n2 : Int)) = decide (trimB y = y) by rw [← hv2.at.1]; exact trim_same y)
  generalize fieldB (x, y) = R at *
  obtain ⟨P1, hP1⟩ : ∃ p, tokL x = p := ⟨_, rfl⟩
  obtain ⟨P2, hP2⟩ : ∃ p, crB y = p := ⟨_, rfl⟩
  obtain ⟨P3, hP3⟩ : ∃ p, decide (trimB y = y) = p := ⟨_, rfl⟩
  rw [hP1] at HT HF
  rw [hP2] at HC HF
  rw [hP3] at HF HS
  generalize trimB y = T at *
  have HW := Lib.hid hW
  have HW2 := Lib.hid hW2
  have HG2 := Lib.hid g2
  have HA := Lib.hid A
  clear hW hW2 hd A0 g0 hP1 hP2 hP3 h1 h2 y1 hG hG2 hv2 htr A g2
  go_enter Tryz.func71, Tryz.ntmps71
  go_wp2_with fail
  rw [HW.out]
  refine pregion_any (fun X => X.cell? ⟨w.heap.size, 0, none⟩ = some (.slice q1 n1 c1) ∧ X.cell? ⟨w.heap.size, 1, none⟩ = some (.slice q2 n2 c2)) (by kernel_rfl) ?_
  rw [HW2.out]
  refine wpAnyH_take (i := 0) (v := (.pointer (some ⟨w.heap.size, 0, none⟩))) rfl (by kernel_rfl) (by kernel_rfl) (by kernel_rfl) (fun _ _ _ h => h) (.inl ⟨by kernel_rfl, ?_⟩) ⟨x0, x1⟩ ?_
  · rintro w ⟨h1, h2⟩; go_simp <;> omega
  refine plist #[true, false, false, false, false, false, false, false, false, false, false, false, false, false, false, false, false, false, false, false] (by kernel_rfl) ?_
  refine wpAnyH_take (i := 1) (v := (.slice q1 n1 c1)) rfl (by kernel_rfl) (by kernel_rfl) (by kernel_rfl) (fun _ _ _ h => h) (.inl ⟨by kernel_rfl, ?_⟩) ⟨x0, x1⟩ ?_
  · rintro w ⟨h1, h2⟩; go_simp <;> omega
  refine plist #[true, true, false, false, false, false, false, false, false, false, false, false, false, false, false, false, false, false, false, false] (by kernel_rfl) ?_
  have con := HT.out
  refine pone 2 (by kernel_rfl) rfl fun K hK => ?_
  go_simp
  refine con.mono ?_
  rintro e w9 ⟨rfl, rfl⟩
  clear con
  refine hK _ _ ⟨x0, x1⟩ ?_
  clear hK K
  cases P1 with
  | false =>
    refine plist #[true, true, true, false, false, false, false, false, false, false, false, false, false, false, false, false, false, false, false, false] (by kernel_rfl) ?_
    refine pone 3 (by kernel_rfl) rfl fun K hK => ?_
    go_simp
    refine hK _ _ ⟨x0, x1⟩ ?_
    clear hK K
    refine plist #[true, true, true, true, false, false, false, false, false, false, false, false, false, false, false, false, false, false, false, false] (by kernel_rfl) ?_
    refine wpAnyH_take (i := 4) (v := (undef)) rfl (by kernel_rfl) (by kernel_rfl) (by kernel_rfl) (fun _ _ _ h => h) (.inr ⟨by kernel_rfl, rfl⟩) ⟨x0, x1⟩ ?_
    refine plist #[true, true, true, true, true, false, false, false, false, false, false, false, false, false, false, false, false, false, false, false] (by kernel_rfl) ?_
    refine wpAnyH_take (i := 5) (v := (undef)) rfl (by kernel_rfl) (by kernel_rfl) (by kernel_rfl) (fun _ _ _ h => h) (.inr ⟨by kernel_rfl, rfl⟩) ⟨x0, x1⟩ ?_
    refine plist #[true, true, true, true, true, true, false, false, false, false, false, false, false, false, false, false, false, false, false, false] (by kernel_rfl) ?_
    refine wpAnyH_take (i := 6) (v := (undef)) rfl (by kernel_rfl) (by kernel_rfl) (by kernel_rfl) (fun _ _ _ h => h) (.inr ⟨by kernel_rfl, rfl⟩) ⟨x0, x1⟩ ?_
    refine plist #[true, true, true, true, true, true, true, false, false, false, false, false, false, false, false, false, false, false, false, false] (by kernel_rfl) ?_
    refine wpAnyH_take (i := 7) (v := (undef)) rfl (by kernel_rfl) (by kernel_rfl) (by kernel_rfl) (fun _ _ _ h => h) (.inr ⟨by kernel_rfl, rfl⟩) ⟨x0, x1⟩ ?_
    refine plist #[true, true, true, true, true, true, true, true, false, false, false, false, false, false, false, false, false, false, false, false] (by kernel_rfl) ?_
    refine pone 8 (by kernel_rfl) rfl fun K hK => ?_
    go_simp
    refine hK _ _ ⟨x0, x1⟩ ?_
    clear hK K
    refine plist #[true, true, true, true, true, true, true, true, true, false, false, false, false, false, false, false, false, false, false, false] (by kernel_rfl) ?_
    refine pone 9 (by kernel_rfl) rfl fun K hK => ?_
    go_simp
    refine hK _ _ ⟨x0, x1⟩ ?_
    clear hK K
    refine plist #[true, true, true, true, true, true, true, true, true, true, false, false, false, false, false, false, false, false, false, false] (by kernel_rfl) ?_
    refine wpAnyH_take (i := 10) (v := (undef)) rfl (by kernel_rfl) (by kernel_rfl) (by kernel_rfl) (fun _ _ _ h => h) (.inr ⟨by kernel_rfl, rfl⟩) ⟨x0, x1⟩ ?_
    refine plist #[true, true, true, true, true, true, true, true, true, true, true, false, false, false, false, false, false, false, false, false] (by kernel_rfl) ?_
    refine wpAnyH_take (i := 11) (v := (undef)) rfl (by kernel_rfl) (by kernel_rfl) (by kernel_rfl) (fun _ _ _ h => h) (.inr ⟨by kernel_rfl, rfl⟩) ⟨x0, x1⟩ ?_
    refine plist #[true, true, true, true, true, true, true, true, true, true, true, true, false, false, false, false, false, false, false, false] (by kernel_rfl) ?_
    refine wpAnyH_take (i := 12) (v := (undef)) rfl (by kernel_rfl) (by kernel_rfl) (by kernel_rfl) (fun _ _ _ h => h) (.inr ⟨by kernel_rfl, rfl⟩) ⟨x0, x1⟩ ?_
    refine plist #[true, true, true, true, true, true, true, true, true, true, true, true, true, false, false, false, false, false, false, false] (by kernel_rfl) ?_
    refine wpAnyH_take (i := 13) (v := (undef)) rfl (by kernel_rfl) (by kernel_rfl) (by kernel_rfl) (fun _ _ _ h => h) (.inr ⟨by kernel_rfl, rfl⟩) ⟨x0, x1⟩ ?_
    refine plist #[true, true, true, true, true, true, true, true, true, true, true, true, true, true, false, false, false, false, false, false] (by kernel_rfl) ?_
    refine wpAnyH_take (i := 14) (v := (undef)) rfl (by kernel_rfl) (by kernel_rfl) (by kernel_rfl) (fun _ _ _ h => h) (.inr ⟨by kernel_rfl, rfl⟩) ⟨x0, x1⟩ ?_
    refine plist #[true, true, true, true, true, true, true, true, true, true, true, true, true, true, true, false, false, false, false, false] (by kernel_rfl) ?_
    refine wpAnyH_take (i := 15) (v := (undef)) rfl (by kernel_rfl) (by kernel_rfl) (by kernel_rfl) (fun _ _ _ h => h) (.inr ⟨by kernel_rfl, rfl⟩) ⟨x0, x1⟩ ?_
    refine plist #[true, true, true, true, true, true, true, true, true, true, true, true, true, true, true, true, false, false, false, false] (by kernel_rfl) ?_
    refine wpAnyH_take (i := 16) (v := (undef)) rfl (by kernel_rfl) (by kernel_rfl) (by kernel_rfl) (fun _ _ _ h => h) (.inr ⟨by kernel_rfl, rfl⟩) ⟨x0, x1⟩ ?_
    refine plist #[true, true, true, true, true, true, true, true, true, true, true, true, true, true, true, true, true, false, false, false] (by kernel_rfl) ?_
    refine wpAnyH_take (i := 17) (v := (undef)) rfl (by kernel_rfl) (by kernel_rfl) (by kernel_rfl) (fun _ _ _ h => h) (.inr ⟨by kernel_rfl, rfl⟩) ⟨x0, x1⟩ ?_
    refine plist #[true, true, true, true, true, true, true, true, true, true, true, true, true, true, true, true, true, true, false, false] (by kernel_rfl) ?_
    refine pone 18 (by kernel_rfl) rfl fun K hK => ?_
    go_simp
    refine hK _ _ ⟨x0, x1⟩ ?_
    clear hK K
    refine plist #[true, true, true, true, true, true, true, true, true, true, true, true, true, true, true, true, true, true, true, false] (by kernel_rfl) ?_
    refine pone 19 (by kernel_rfl) rfl fun K hK => ?_
    go_simp
    refine hK _ _ ⟨x0, x1⟩ ?_
    clear hK K
    refine pdone (by kernel_rfl) ?_ _
    clear HT HM HC HS HG2 x0 x1
    go_wp2
    go_ret
    exact ⟨by rw [HF.out]; rfl, HA.out⟩
  | true =>
    refine plist #[true, true, true, false, false, false, false, false, false, false, false, false, false, false, false, false, false, false, false, false] (by kernel_rfl) ?_
    refine pone 3 (by kernel_rfl) rfl fun K hK => ?_
    go_simp
    refine hK _ _ ⟨x0, x1⟩ ?_
    clear hK K
    refine plist #[true, true, true, true, false, false, false, false, false, false, false, false, false, false, false, false, false, false, false, false] (by kernel_rfl) ?_
    refine wpAnyH_take (i := 4) (v := (.pointer (some ⟨w.heap.size, 1, none⟩))) rfl (by kernel_rfl) (by kernel_rfl) (by kernel_rfl) (fun _ _ _ h => h) (.inl ⟨by kernel_rfl, ?_⟩) ⟨x0, x1⟩ ?_
    · rintro w ⟨h1, h2⟩; go_simp <;> omega
    refine plist #[true, true, true, true, true, false, false, false, false, false, false, false, false, false, false, false, false, false, false, false] (by kernel_rfl) ?_
    refine wpAnyH_take (i := 5) (v := (.slice q2 n2 c2)) rfl (by kernel_rfl) (by kernel_rfl) (by kernel_rfl) (fun _ _ _ h => h) (.inl ⟨by kernel_rfl, ?_⟩) ⟨x0, x1⟩ ?_
    · rintro w ⟨h1, h2⟩; go_simp <;> omega
    refine plist #[true, true, true, true, true, true, false, false, false, false, false, false, false, false, false, false, false, false, false, false] (by kernel_rfl) ?_
    have con := HC.out _ (Below.refl _ _)
    refine pone 6 (by kernel_rfl) rfl fun K hK => ?_
    go_simp
    refine con.mono ?_
    rintro e w3 ⟨rfl, hb⟩
    have A3 := HA.out.trans (hb.mono HA.out.size)
    have g3 := HG2.out.on hb
    have x0 := g3.cell 0 _ rfl
    have x1 := g3.cell 1 _ rfl
    have HB3 := Lib.hid hb
    have HA3 := Lib.hid A3
    have HG3 := Lib.hid g3
    clear A3 g3
    clear con hb HC HT
    refine hK _ _ ⟨x0, x1⟩ ?_
    clear hK K
    refine plist #[true, true, true, true, true, true, true, false, false, false, false, false, false, false, false, false, false, false, false, false] (by kernel_rfl) ?_
    refine pone 7 (by kernel_rfl) rfl fun K hK => ?_
    go_simp
    refine hK _ _ ⟨x0, x1⟩ ?_
    clear hK K
    cases P2 with
    | true =>
      refine plist #[true, true, true, true, true, true, true, true, false, false, false, false, false, false, false, false, false, false, false, false] (by kernel_rfl) ?_
      refine pone 8 (by kernel_rfl) rfl fun K hK => ?_
      go_simp
      refine hK _ _ ⟨x0, x1⟩ ?_
      clear hK K
      refine plist #[true, true, true, true, true, true, true, true, true, false, false, false, false, false, false, false, false, false, false, false] (by kernel_rfl) ?_
      refine pone 9 (by kernel_rfl) rfl fun K hK => ?_
      go_simp
      refine hK _ _ ⟨x0, x1⟩ ?_
      clear hK K
      refine plist #[true, true, true, true, true, true, true, true, true, true, false, false, false, false, false, false, false, false, false, false] (by kernel_rfl) ?_
      refine wpAnyH_take (i := 10) (v := (undef)) rfl (by kernel_rfl) (by kernel_rfl) (by kernel_rfl) (fun _ _ _ h => h) (.inr ⟨by kernel_rfl, rfl⟩) ⟨x0, x1⟩ ?_
      refine plist #[true, true, true, true, true, true, true, true, true, true, true, false, false, false, false, false, false, false, false, false] (by kernel_rfl) ?_
      refine wpAnyH_take (i := 11) (v := (undef)) rfl (by kernel_rfl) (by kernel_rfl) (by kernel_rfl) (fun _ _ _ h => h) (.inr ⟨by kernel_rfl, rfl⟩) ⟨x0, x1⟩ ?_
      refine plist #[true, true, true, true, true, true, true, true, true, true, true, true, false, false, false, false, false, false, false, false] (by kernel_rfl) ?_
      refine wpAnyH_take (i := 12) (v := (undef)) rfl (by kernel_rfl) (by kernel_rfl) (by kernel_rfl) (fun _ _ _ h => h) (.inr ⟨by kernel_rfl, rfl⟩) ⟨x0, x1⟩ ?_
      refine plist #[true, true, true, true, true, true, true, true, true, true, true, true, true, false, false, false, false, false, false, false] (by kernel_rfl) ?_
      refine wpAnyH_take (i := 13) (v := (undef)) rfl (by kernel_rfl) (by kernel_rfl) (by kernel_rfl) (fun _ _ _ h => h) (.inr ⟨by kernel_rfl, rfl⟩) ⟨x0, x1⟩ ?_
      refine plist #[true, true, true, true, true, true, true, true, true, true, true, true, true, true, false, false, false, false, false, false] (by kernel_rfl) ?_
      refine wpAnyH_take (i := 14) (v := (undef)) rfl (by kernel_rfl) (by kernel_rfl) (by kernel_rfl) (fun _ _ _ h => h) (.inr ⟨by kernel_rfl, rfl⟩) ⟨x0, x1⟩ ?_
      refine plist #[true, true, true, true, true, true, true, true, true, true, true, true, true, true, true, false, false, false, false, false] (by kernel_rfl) ?_
      refine wpAnyH_take (i := 15) (v := (undef)) rfl (by kernel_rfl) (by kernel_rfl) (by kernel_rfl) (fun _ _ _ h => h) (.inr ⟨by kernel_rfl, rfl⟩) ⟨x0, x1⟩ ?_
      refine plist #[true, true, true, true, true, true, true, true, true, true, true, true, true, true, true, true, false, false, false, false] (by kernel_rfl) ?_
      refine wpAnyH_take (i := 16) (v := (undef)) rfl (by kernel_rfl) (by kernel_rfl) (by kernel_rfl) (fun _ _ _ h => h) (.inr ⟨by kernel_rfl, rfl⟩) ⟨x0, x1⟩ ?_
      refine plist #[true, true, true, true, true, true, true, true, true, true, true, true, true, true, true, true, true, false, false, false] (by kernel_rfl) ?_
      refine wpAnyH_take (i := 17) (v := (undef)) rfl (by kernel_rfl) (by kernel_rfl) (by kernel_rfl) (fun _ _ _ h => h) (.inr ⟨by kernel_rfl, rfl⟩) ⟨x0, x1⟩ ?_
      refine plist #[true, true, true, true, true, true, true, true, true, true, true, true, true, true, true, true, true, true, false, false] (by kernel_rfl) ?_
      refine pone 18 (by kernel_rfl) rfl fun K hK => ?_
      go_simp
      refine hK _ _ ⟨x0, x1⟩ ?_
      clear hK K
      refine plist #[true, true, true, true, true, true, true, true, true, true, true, true, true, true, true, true, true, true, true, false] (by kernel_rfl) ?_
      refine pone 19 (by kernel_rfl) rfl fun K hK => ?_
      go_simp
      refine hK _ _ ⟨x0, x1⟩ ?_
      clear hK K
      refine pdone (by kernel_rfl) ?_ _
      clear HM HS HG2 x0 x1
      go_wp2
      go_ret
      exact ⟨by rw [HF.out]; rfl, HA3.out⟩
    | false =>
      refine plist #[true, true, true, true, true, true, true, true, false, false, false, false, false, false, false, false, false, false, false, false] (by kernel_rfl) ?_
      refine pone 8 (by kernel_rfl) rfl fun K hK => ?_
      go_simp
      refine hK _ _ ⟨x0, x1⟩ ?_
      clear hK K
      refine plist #[true, true, true, true, true, true, true, true, true, false, false, false, false, false, false, false, false, false, false, false] (by kernel_rfl) ?_
      refine pone 9 (by kernel_rfl) rfl fun K hK => ?_
      go_simp
      refine hK _ _ ⟨x0, x1⟩ ?_
      clear hK K
      refine plist #[true, true, true, true, true, true, true, true, true, true, false, false, false, false, false, false, false, false, false, false] (by kernel_rfl) ?_
      refine wpAnyH_take (i := 10) (v := (.pointer (some ⟨w.heap.size, 1, none⟩))) rfl (by kernel_rfl) (by kernel_rfl) (by kernel_rfl) (fun _ _ _ h => h) (.inl ⟨by kernel_rfl, ?_⟩) ⟨x0, x1⟩ ?_
      · rintro w ⟨h1, h2⟩; go_simp <;> omega
      refine plist #[true, true, true, true, true, true, true, true, true, true, true, false, false, false, false, false, false, false, false, false] (by kernel_rfl) ?_
      refine wpAnyH_take (i := 11) (v := (.slice q2 n2 c2)) rfl (by kernel_rfl) (by kernel_rfl) (by kernel_rfl) (fun _ _ _ h => h) (.inl ⟨by kernel_rfl, ?_⟩) ⟨x0, x1⟩ ?_
      · rintro w ⟨h1, h2⟩; go_simp <;> omega
      refine plist #[true, true, true, true, true, true, true, true, true, true, true, true, false, false, false, false, false, false, false, false] (by kernel_rfl) ?_
      refine wpAnyH_take (i := 14) (v := (.pointer (some ⟨w.heap.size, 1, none⟩))) rfl (by kernel_rfl) (by kernel_rfl) (by kernel_rfl) (fun _ _ _ h => h) (.inl ⟨by kernel_rfl, ?_⟩) ⟨x0, x1⟩ ?_
      · rintro w ⟨h1, h2⟩; go_simp <;> omega
      refine plist #[true, true, true, true, true, true, true, true, true, true, true, true, false, false, true, false, false, false, false, false] (by kernel_rfl) ?_
      refine wpAnyH_take (i := 15) (v := (.slice q2 n2 c2)) rfl (by kernel_rfl) (by kernel_rfl) (by kernel_rfl) (fun _ _ _ h => h) (.inl ⟨by kernel_rfl, ?_⟩) ⟨x0, x1⟩ ?_
      · rintro w ⟨h1, h2⟩; go_simp <;> omega
      refine plist #[true, true, true, true, true, true, true, true, true, true, true, true, false, false, true, true, false, false, false, false] (by kernel_rfl) ?_
      refine wpAnyH_take (i := 16) (v := (.int .i64 (n2 : Int))) rfl (by kernel_rfl) (by kernel_rfl) (by kernel_rfl) (fun _ _ _ h => h) (.inl ⟨by kernel_rfl, ?_⟩) ⟨x0, x1⟩ ?_
      · rintro w ⟨h1, h2⟩; go_simp <;> omega
      refine plist #[true, true, true, true, true, true, true, true, true, true, true, true, false, false, true, true, true, false, false, false] (by kernel_rfl) ?_
      have con := HM.out _ HB3.out
      refine pone 12 (by kernel_rfl) rfl fun K hK => ?_
      go_simp
      refine con.mono ?_
      rintro e w4 ⟨vt, rfl, hr, hb⟩
      obtain ⟨qt, ct, rfl, _⟩ := row_open hr
      have A4 := HA3.out.trans (hb.mono HA3.out.size)
      have g4 := HG3.out.on hb
      have x0 := g4.cell 0 _ rfl
      have x1 := g4.cell 1 _ rfl
      have HA4 := Lib.hid A4
      clear A4 g4 hr
      clear con hb HM
      refine hK _ _ ⟨x0, x1⟩ ?_
      clear hK K
      refine plist #[true, true, true, true, true, true, true, true, true, true, true, true, true, false, true, true, true, false, false, false] (by kernel_rfl) ?_
      refine pone 13 (by kernel_rfl) rfl fun K hK => ?_
      go_simp
      refine hK _ _ ⟨x0, x1⟩ ?_
      clear hK K
      have d3 := HS.out
      refine plist #[true, true, true, true, true, true, true, true, true, true, true, true, true, true, true, true, true, false, false, false] (by kernel_rfl) ?_
      refine pone 17 (by kernel_rfl) rfl fun K hK => ?_
      go_simp
      refine hK _ _ ⟨x0, x1⟩ ?_
      clear hK K
      refine plist #[true, true, true, true, true, true, true, true, true, true, true, true, true, true, true, true, true, true, false, false] (by kernel_rfl) ?_
      refine pone 18 (by kernel_rfl) rfl fun K hK => ?_
      go_simp
      refine hK _ _ ⟨x0, x1⟩ ?_
      clear hK K
      refine plist #[true, true, true, true, true, true, true, true, true, true, true, true, true, true, true, true, true, true, true, false] (by kernel_rfl) ?_
      refine pone 19 (by kernel_rfl) rfl fun K hK => ?_
      go_simp
      refine hK _ _ ⟨x0, x1⟩ ?_
      clear hK K
      refine pdone (by kernel_rfl) ?_ _
      clear HS x0 x1
      go_wp2
      go_ret
      exact ⟨by rw [HF.out]; rfl, HA4.out⟩
end Go.Proofs.YtedglpfdibamdaaGreatDoor.Hdr
namespace Go.Proofs.YtedglpfdibamdaaGreatDoor.Hdr
open Go.RowKit Go.Shelf Url
attribute [local go_sem] Oper.semAt_some
set_option linter.unusedVariables false
theorem info_hfl : (Tryz.prog.info? 138).map (fun i => (i.zero, i.size, i.bytes)) = some (some (.agg #[.string ⟨#[]⟩, .string ⟨#[]⟩]), 2, 32) := by kernel_rfl
theorem conv_str {W : World} {q : Option Addr} {n c : Nat} {l : List UInt8} (h : By W (.slice q n c) l) : (convert 22 9 (.slice q n c)).run Tryz.prog W = .ok (.string ⟨l.toArray⟩) W := by
  obtain ⟨h1, _, _, _, h5⟩ := h.at
  have := h5.convert (P := Tryz.prog) ((Lib.numsL_length l).trans h1) c 22 5 9 Tryz.underlying22 Tryz.underlying5 Tryz.underlying9
  rw [strOfNums_numsL] at this
  exact this
theorem hdr_form {w : World} {base n : Nat} {v : Value} {xs : List Value} (h : w.ownsRow base 138 2 v n xs) : ∃ q c, v = .slice q n c := by
  rcases h.2 with ⟨rfl, hm⟩ | ⟨g, cap, cur, rfl, _⟩
  · exact ⟨none, 0, by rw [show n = 0 by assumption]⟩
  · exact ⟨_, _, rfl⟩
theorem wp_append_ownH {P : Program} {o : Oper} {a : Act} {w : World} {K : Act → World → Prop} {Q : Exit → Act → World → Prop} (s x : Operand) (t : TypeId)
    (ho : o.op = .call { callee := .builtin .append, args := #[s, x], argTypes := #[t, t] })
    (base : Nat) (e : TypeId) (i : TypeInfo) (z : Value) (size bytes : Nat) (ht : P.underlying t = some (.slice e)) (hi : P.info? e = some i) (hz : i.zero = some z)
    (hsize : i.size = size) (hby : i.bytes = bytes) (hzs : z.cells.size = size) (hsz : 0 < size)
    (v : Value) (n : Nat) (xs : List Value) (hs : a.eval s = v) (hown : w.ownsRow base e size v n xs)
    (ad : Addr) (m c : Nat) (news : List Value) (hx : a.eval x = .slice (some ad) m c) (hl : news.length = m * size) (hnews : ∀ j u, news[j]? = some u → w.cell? (ad.add j) = some u) (h1 : ∀ u ∈ news, u.oneCell' = true)
    (h63 : n + m ≤ maxLen) (hbytes : (n + m) * bytes ≤ 140737488355328) (hbase : base ≤ w.heap.size)
    (h : ∀ v' w', w'.ownsRow base e size v' (n + m) (xs ++ news) → w.grownBy w' v.ownBlock → (v'.ownBlock = v.ownBlock ∨ v'.ownBlock = some w.heap.size) → K (a.put o.dst v') w') : o.wp P a w K Q := by
  obtain ⟨v', w', hr, h2, h3, _, h5⟩ := run_append_own_at (P := P) w base t o.type e i z size bytes ht hi hz hsize hby hzs hsz v n xs hown ad m c news hl hnews h1 h63 hbytes hbase
  unfold Oper.wp execOp
  simp only [ho, resolve, invoke, builtin, Sem.run_bind, Sem.run_pure, Result.andThen_ok, List.map_toArray, List.map_cons, List.map_nil, hs, hx, hr]
  exact h v' w' h2 h3 h5
def addL (l : List Fld) (f : Fld) : List Fld := if wrongF f l.length = 0 then l ++ [f] else l
def AddOut (b B : Nat) (v : Value) (l : List Fld) (f : Fld) (w : World) (e : Ending) (w' : World) : Prop :=
  ∃ v', e = .returned (.int .i64 (wrongF f l.length)) ∧ Boxed w' b 42 v' ∧ w'.ownsRow B 138 2 v' (addL l f).length (fdV (addL l f)) ∧ Below b w w' ∧ Keep (fun k => k ≠ b ∧ v.ownBlock ≠ some k) w w'
set_option maxRecDepth 100000 in
set_option maxHeartbeats 16000000 in
theorem add_any (b B : Nat) (v : Value) (l : List Fld) (q1 : Option Addr) (n1 c1 : Nat) (x : List UInt8) (q2 : Option Addr) (n2 c2 : Nat) (y : List UInt8) (w : World) (hG : Ug w) (e1 : Boxed w b 42 v) (hrow : w.ownsRow B 138 2 v l.length (fdV l)) (hbB : b < B) (hBw : B ≤ w.heap.size)
    (h1 : By w (.slice q1 n1 c1) x) (h2 : By w (.slice q2 n2 c2) y) (l1 : n1 ≤ 1048576) (l2 : n2 ≤ 1048576) (hl : l.length ≤ 64) (ha1 : ∀ a, q1 = some a → 0 < n1 → a.block ≠ b ∧ v.ownBlock ≠ some a.block) (ha2 : ∀ a, q2 = some a → 0 < n2 → a.block ≠ b ∧ v.ownBlock ≠ some a.block) :
    Calls Tryz.prog 43 #[.pointer (some ⟨b, 0, none⟩), .agg #[.slice q1 n1 c1, .slice q2 n2 c2]] w (AddOut b B v l (x, y) w) := by
  obtain ⟨i0, hi0, hz0, hz1, hz2⟩ := info_parts info_hfl
  obtain ⟨qv, cv, rfl⟩ := hdr_form hrow
  obtain ⟨n, hn⟩ : ∃ n, l.length = n := ⟨_, rfl⟩
  have HN := Lib.hid hn
  rw [hn] at hrow e1 hl ha1 ha2 ⊢
  have hbl := e1.lt
  obtain ⟨W1, hW1⟩ : ∃ Z, w.alloc (.cells #[.slice q1 n1 c1, .slice q2 n2 c2] 96) = Z := ⟨_, rfl⟩
  have hb1 : Below w.heap.size w W1 := hW1 ▸ (Below.refl _ w).alloc (Nat.le_refl _) _
  have f1 : FB2 w.heap.size #[.slice q1 n1 c1, .slice q2 n2 c2] W1 := hW1 ▸ FB2.new w _
  have con := isField_any q1 n1 c1 x q2 n2 c2 y W1 (hG.on hb1) (h1.on hb1) (h2.on hb1) l1 l2
  have x0 := f1.cell 0 _ rfl
  have x1 := f1.cell 1 _ rfl
  have HY1 := Lib.hid h1
  have HY2 := Lib.hid h2
  have HROW := Lib.hid hrow
  have HE1 := Lib.hid e1
  have HW1 := Lib.hid hW1
  have HA1 := Lib.hid ha1
  have HA2' := Lib.hid ha2
  have HO := Lib.hid (show ∀ k, (Value.slice qv n cv).ownBlock = some k → B ≤ k ∧ k < w.heap.size from fun k hk => hrow.lt k hk)
  obtain ⟨P, hP⟩ : ∃ p, fieldB (x, y) = p := ⟨_, rfl⟩
  have HWF := Lib.hid (show wrongF (x, y) n = if P = true then (if 64 ≤ n then 3 else 0) else 2 by rw [← hP]; rfl)
  rw [hP] at con
  have HADD := Lib.hid (show addL l (x, y) = if wrongF (x, y) n = 0 then l ++ [(x, y)] else l by unfold addL; rw [HN.out])
  have hkall : ∀ w', Below w.heap.size w w' → Keep (fun k => k ≠ b ∧ (Value.slice qv n cv).ownBlock ≠ some k) w w' := fun w' hb => (Keep.of_below hb).mono fun k hk _ => hk
  have HKA := Lib.hid hkall
  unfold AddOut
  rw [HN.out]
  generalize wrongF (x, y) n = E at *
  clear hW1 hP h1 h2 hrow e1 hG hkall hn ha1 ha2
  go_enter Tryz.func43, Tryz.ntmps43
  go_wp2_with fail
  rw [HW1.out]
  refine con.mono ?_
  rintro e w3 ⟨rfl, hb⟩
  have B3 := hb1.trans (hb.mono hb1.size)
  have e3 := (Keep.of_below B3).boxed HE1.out HE1.out.lt
  have hrow3 := (Keep.of_below B3).row HROW.out (fun k hk => (HROW.out.lt k hk).2)
  have f3 := f1.on hb
  clear con hb hb1 x0 x1 f1 HW1
  cases P with
  | false =>
    have HE := Lib.hid (show E = 2 by rw [HWF.out]; rfl)
    have HA2 := Lib.hid (show addL l (x, y) = l by rw [HADD.out, if_neg (by rw [HE.out]; decide)])
    have hr3 := Lib.hid hrow3
    clear hrow3
    go_wp2
    go_ret
    refine ⟨_, by rw [HE.out]; rfl, e3, ?_, B3.mono (Nat.le_of_lt hbl), HKA.out _ B3⟩
    rw [HA2.out, HN.out]
    exact hr3.out
  | true =>
    have c0 := e3.cell
    by_cases h64 : n = 64
    · have d : ((n : Int) == 64) = true := by rw [h64]; rfl
      have HE := Lib.hid (show E = 3 by rw [HWF.out, if_pos rfl, if_pos (by omega)])
      have HA2 := Lib.hid (show addL l (x, y) = l by rw [HADD.out, if_neg (by rw [HE.out]; decide)])
      have hr3 := Lib.hid hrow3
      clear hrow3 h64
      go_wp2
      go_ret
      refine ⟨_, by rw [HE.out]; rfl, e3, ?_, B3.mono (Nat.le_of_lt hbl), HKA.out _ B3⟩
      rw [HA2.out, HN.out]
      exact hr3.out
    · have d : ((n : Int) == 64) = false := by simp; omega
      have HE := Lib.hid (show E = 0 by rw [HWF.out, if_pos rfl, if_neg (by omega)])
      have HA2 := Lib.hid (show addL l (x, y) = l ++ [(x, y)] by rw [HADD.out, if_pos HE.out])
      obtain ⟨w4, hw4⟩ : ∃ Z, w3.drew = Z := ⟨_, rfl⟩
      have hb : Below w3.heap.size w3 w4 := hw4 ▸ ⟨rfl, rfl, rfl, Nat.le_refl _, fun _ _ => rfl⟩
      have B4 := B3.trans (hb.mono B3.size)
      have e4 := (Keep.of_below hb).boxed e3 e3.lt
      have hrow4 := (Keep.of_below hb).row hrow3 (fun k hk => (hrow3.lt k hk).2)
      have f4 := f3.on hb
      have hH := e4.cell
      have x0 := f4.cell 0 _ rfl
      have x1 := f4.cell 1 _ rfl
      have y1 := HY1.out.on B4
      have y2 := HY2.out.on B4
      have HW4 := Lib.hid hw4
      have HHL := Lib.hid hl
      have hs4 := B4.size
      clear hw4 hb e3 hrow3 f3 B3 h64 hl
      go_wp2_with fail
      refine region_anyQ (fun j => decide (j ≠ 16)) (fun X => X.cell? ⟨b, 0, none⟩ = some (.slice qv n cv) ∧ X.cell? ⟨w.heap.size, 0, none⟩ = some (.slice q1 n1 c1) ∧ X.cell? ⟨w.heap.size, 1, none⟩ = some (.slice q2 n2 c2) ∧ By X (.slice q1 n1 c1) x ∧ By X (.slice q2 n2 c2) y) (by kernel_rfl) ?_
      rw [HW4.out]
      refine anyQ_take 0 (v := (.pointer (some ⟨b, 0, none⟩))) rfl (by kernel_rfl) (by kernel_rfl) (by kernel_rfl) (by kernel_rfl) (fun _ _ _ h => h) (.inl ⟨by kernel_rfl, ?_⟩) ⟨hH, x0, x1, y1, y2⟩ ?_
      · rintro w ⟨h1, h2, h3, h4, h5⟩; have k4 := conv_str h4; have k5 := conv_str h5; go_simp <;> omega
      refine anyQ_list #[true, false, false, false, false, false, false, false, false, false, false, false, false, false, false, false, false] (by kernel_rfl) ?_
      refine anyQ_take 1 (v := (.pointer (some ⟨b, 0, none⟩))) rfl (by kernel_rfl) (by kernel_rfl) (by kernel_rfl) (by kernel_rfl) (fun _ _ _ h => h) (.inl ⟨by kernel_rfl, ?_⟩) ⟨hH, x0, x1, y1, y2⟩ ?_
      · rintro w ⟨h1, h2, h3, h4, h5⟩; have k4 := conv_str h4; have k5 := conv_str h5; go_simp <;> omega
      refine anyQ_list #[true, true, false, false, false, false, false, false, false, false, false, false, false, false, false, false, false] (by kernel_rfl) ?_
      refine anyQ_take 2 (v := (.pointer (some ⟨b, 0, none⟩))) rfl (by kernel_rfl) (by kernel_rfl) (by kernel_rfl) (by kernel_rfl) (fun _ _ _ h => h) (.inl ⟨by kernel_rfl, ?_⟩) ⟨hH, x0, x1, y1, y2⟩ ?_
      · rintro w ⟨h1, h2, h3, h4, h5⟩; have k4 := conv_str h4; have k5 := conv_str h5; go_simp <;> omega
      refine anyQ_list #[true, true, true, false, false, false, false, false, false, false, false, false, false, false, false, false, false] (by kernel_rfl) ?_
      refine anyQ_take 3 (v := (.pointer (some ⟨b, 0, none⟩))) rfl (by kernel_rfl) (by kernel_rfl) (by kernel_rfl) (by kernel_rfl) (fun _ _ _ h => h) (.inl ⟨by kernel_rfl, ?_⟩) ⟨hH, x0, x1, y1, y2⟩ ?_
      · rintro w ⟨h1, h2, h3, h4, h5⟩; have k4 := conv_str h4; have k5 := conv_str h5; go_simp <;> omega
      refine anyQ_list #[true, true, true, true, false, false, false, false, false, false, false, false, false, false, false, false, false] (by kernel_rfl) ?_
      refine anyQ_take 4 (v := (.slice qv n cv)) rfl (by kernel_rfl) (by kernel_rfl) (by kernel_rfl) (by kernel_rfl) (fun _ _ _ h => h) (.inl ⟨by kernel_rfl, ?_⟩) ⟨hH, x0, x1, y1, y2⟩ ?_
      · rintro w ⟨h1, h2, h3, h4, h5⟩; have k4 := conv_str h4; have k5 := conv_str h5; go_simp <;> omega
      refine anyQ_list #[true, true, true, true, true, false, false, false, false, false, false, false, false, false, false, false, false] (by kernel_rfl) ?_
      refine anyQ_take 5 (v := (.pointer (some ⟨w.heap.size, 0, none⟩))) rfl (by kernel_rfl) (by kernel_rfl) (by kernel_rfl) (by kernel_rfl) (fun _ _ _ h => h) (.inl ⟨by kernel_rfl, ?_⟩) ⟨hH, x0, x1, y1, y2⟩ ?_
      · rintro w ⟨h1, h2, h3, h4, h5⟩; have k4 := conv_str h4; have k5 := conv_str h5; go_simp <;> omega
      refine anyQ_list #[true, true, true, true, true, true, false, false, false, false, false, false, false, false, false, false, false] (by kernel_rfl) ?_
      refine anyQ_take 6 (v := (.slice q1 n1 c1)) rfl (by kernel_rfl) (by kernel_rfl) (by kernel_rfl) (by kernel_rfl) (fun _ _ _ h => h) (.inl ⟨by kernel_rfl, ?_⟩) ⟨hH, x0, x1, y1, y2⟩ ?_
      · rintro w ⟨h1, h2, h3, h4, h5⟩; have k4 := conv_str h4; have k5 := conv_str h5; go_simp <;> omega
      refine anyQ_list #[true, true, true, true, true, true, true, false, false, false, false, false, false, false, false, false, false] (by kernel_rfl) ?_
      refine anyQ_take 7 (v := (.string ⟨x.toArray⟩)) rfl (by kernel_rfl) (by kernel_rfl) (by kernel_rfl) (by kernel_rfl) (fun _ _ _ h => h) (.inl ⟨by kernel_rfl, ?_⟩) ⟨hH, x0, x1, y1, y2⟩ ?_
      · rintro w ⟨h1, h2, h3, h4, h5⟩; have k4 := conv_str h4; have k5 := conv_str h5; go_simp <;> omega
      refine anyQ_list #[true, true, true, true, true, true, true, true, false, false, false, false, false, false, false, false, false] (by kernel_rfl) ?_
      refine anyQ_take 8 (v := (.pointer (some ⟨w.heap.size, 1, none⟩))) rfl (by kernel_rfl) (by kernel_rfl) (by kernel_rfl) (by kernel_rfl) (fun _ _ _ h => h) (.inl ⟨by kernel_rfl, ?_⟩) ⟨hH, x0, x1, y1, y2⟩ ?_
      · rintro w ⟨h1, h2, h3, h4, h5⟩; have k4 := conv_str h4; have k5 := conv_str h5; go_simp <;> omega
      refine anyQ_list #[true, true, true, true, true, true, true, true, true, false, false, false, false, false, false, false, false] (by kernel_rfl) ?_
      refine anyQ_take 9 (v := (.slice q2 n2 c2)) rfl (by kernel_rfl) (by kernel_rfl) (by kernel_rfl) (by kernel_rfl) (fun _ _ _ h => h) (.inl ⟨by kernel_rfl, ?_⟩) ⟨hH, x0, x1, y1, y2⟩ ?_
      · rintro w ⟨h1, h2, h3, h4, h5⟩; have k4 := conv_str h4; have k5 := conv_str h5; go_simp <;> omega
      refine anyQ_list #[true, true, true, true, true, true, true, true, true, true, false, false, false, false, false, false, false] (by kernel_rfl) ?_
      refine anyQ_take 10 (v := (.string ⟨y.toArray⟩)) rfl (by kernel_rfl) (by kernel_rfl) (by kernel_rfl) (by kernel_rfl) (fun _ _ _ h => h) (.inl ⟨by kernel_rfl, ?_⟩) ⟨hH, x0, x1, y1, y2⟩ ?_
      · rintro w ⟨h1, h2, h3, h4, h5⟩; have k4 := conv_str h4; have k5 := conv_str h5; go_simp <;> omega
      refine anyQ_list #[true, true, true, true, true, true, true, true, true, true, true, false, false, false, false, false, false] (by kernel_rfl) ?_
      refine anyQ_take 11 (v := (.agg #[.string ⟨x.toArray⟩, .string ⟨y.toArray⟩])) rfl (by kernel_rfl) (by kernel_rfl) (by kernel_rfl) (by kernel_rfl) (fun _ _ _ h => h) (.inl ⟨by kernel_rfl, ?_⟩) ⟨hH, x0, x1, y1, y2⟩ ?_
      · rintro w ⟨h1, h2, h3, h4, h5⟩; have k4 := conv_str h4; have k5 := conv_str h5; go_simp <;> omega
      refine anyQ_list #[true, true, true, true, true, true, true, true, true, true, true, true, false, false, false, false, false] (by kernel_rfl) ?_
      have cn := cell_two_new w4 (.string ⟨x.toArray⟩) (.string ⟨y.toArray⟩) 138
      have hbn : Below w4.heap.size w4 (w4.alloc (.cells #[.string ⟨x.toArray⟩, .string ⟨y.toArray⟩] 138)) := (Below.refl _ w4).alloc (Nat.le_refl _) _
      have hH5 := cell_on hH hbn
      have f5 := f4.on hbn
      refine anyQ_one 12 (by kernel_rfl) rfl fun K hK => ?_
      go_simp
      refine hK _ _ (fun _ => ⟨hH5, f5.cell 0 _ rfl, f5.cell 1 _ rfl, y1.on hbn, y2.on hbn⟩) ?_
      clear hK K
      refine anyQ_list #[true, true, true, true, true, true, true, true, true, true, true, true, true, false, false, false, false] (by kernel_rfl) ?_
      refine anyQ_one 13 (by kernel_rfl) rfl fun K hK => ?_
      rw [if_pos (by rfl)]
      have hl64 := HHL.out
      refine wp_append_ownH _ _ 40 rfl B 138 i0 (.agg #[.string ⟨#[]⟩, .string ⟨#[]⟩]) 2 32 Tryz.underlying40 hi0 hz0 hz1 hz2 rfl (by decide) _ _ _ rfl (hrow4.alloc _) ⟨w4.heap.size, 0, none⟩ 1 1 [.string ⟨x.toArray⟩, .string ⟨y.toArray⟩] rfl rfl cn (by simp [Value.oneCell']) (by unfold maxLen; omega) (by omega) (by simp; omega) ?_
      intro v8 w8 hown8 hgrow8 hat
      obtain ⟨g', cap', rfl⟩ := ownsRow_succ hown8
      obtain ⟨hv1, hv2, _, _, hb2⟩ := e4.appended (by decide) (row_base hrow4 (Nat.le_of_lt hbB)) (by omega) (Nat.le_refl _) (row_base hown8 (Nat.le_of_lt hbB)) hgrow8
      have hne : ∀ r, (Value.slice qv n cv).ownBlock = some r → r < w.heap.size := fun r hr => (HO.out r hr).2
      have f8 : FB2 w.heap.size #[.slice q1 n1 c1, .slice q2 n2 c2] w8 := (Keep.of_grownBy (S := fun k => k = w.heap.size) hgrow8 (fun r hr e => by have := hne r hr; omega)).heap rfl f5
      have xH8 := hv1.cell
      have zH8 := hv1.frozen
      have y8 : By w8 (.slice q1 n1 c1) x ∧ By w8 (.slice q2 n2 c2) y := by
        have hkg : Keep (fun k => k ≠ b ∧ (Value.slice qv n cv).ownBlock ≠ some k) (w4.alloc (.cells #[.string ⟨x.toArray⟩, .string ⟨y.toArray⟩] 138)) w8 := Keep.of_grownBy hgrow8 (fun r hr h => h.2 hr)
        exact ⟨by_keep (y1.on hbn) hkg HA1.out, by_keep (y2.on hbn) hkg HA2'.out⟩
      refine hK _ _ (fun _ => ⟨xH8, f8.cell 0 _ rfl, f8.cell 1 _ rfl, y8.1, y8.2⟩) ?_
      clear hK K
      refine anyQ_list #[true, true, true, true, true, true, true, true, true, true, true, true, true, true, false, false, false] (by kernel_rfl) ?_
      refine anyQ_one 14 (by kernel_rfl) rfl fun K hK => ?_
      go_simp
      refine hK _ _ (fun _ => ⟨xH8, f8.cell 0 _ rfl, f8.cell 1 _ rfl, y8.1, y8.2⟩) ?_
      clear hK K
      refine anyQ_list #[true, true, true, true, true, true, true, true, true, true, true, true, true, true, true, false, false] (by kernel_rfl) ?_
      refine anyQ_one 15 (by kernel_rfl) rfl fun K hK => ?_
      go_simp
      refine hK _ _ (fun _ => ⟨xH8, f8.cell 0 _ rfl, f8.cell 1 _ rfl, y8.1, y8.2⟩) ?_
      clear hK K
      refine anyQ_list #[true, true, true, true, true, true, true, true, true, true, true, true, true, true, true, true, false] (by kernel_rfl) ?_
      have hkF : Keep (fun k => k ≠ b ∧ (Value.slice qv n cv).ownBlock ≠ some k) w4 (w8.setCell ⟨b, 0, none⟩ (.slice (some ⟨g', 0, none⟩) (n + 1) cap')) :=
        ((Keep.alloc _ w4 _).trans (Keep.of_grownBy hgrow8 (fun r hr h => h.2 hr))).trans (Keep.setCell _ _ _ (fun h => h.1 rfl))
      have rowF := (Keep.setCell (S := fun k => k ≠ b) w8 ⟨b, 0, none⟩ (.slice (some ⟨g', 0, none⟩) (n + 1) cap') (by simp)).row hown8 (fun k hk => by have := (hown8.lt k hk).1; omega)
      have BF := (B4.mono (Nat.le_of_lt hbl)).trans hb2
      have hKF := (HKA.out _ B4).trans hkF
      have HRF := Lib.hid rowF
      clear rowF hown8 hgrow8 hrow4 hkF
      refine anyQ_one 16 (by kernel_rfl) rfl fun K hK => ?_
      go_simp
      refine hK _ _ (fun h => by simp at h) ?_
      clear hK K
      refine anyQ_done (by kernel_rfl) ?_ _
      go_wp2
      go_ret
      refine ⟨_, by rw [HE.out]; rfl, hv2, ?_, BF, hKF⟩
      rw [HA2.out, List.length_append, fdV_snoc, HN.out]
      exact HRF.out
end Go.Proofs.YtedglpfdibamdaaGreatDoor.Hdr
namespace Go.Proofs.YtedglpfdibamdaaGreatDoor.Hdr
open Go.RowKit Go.Shelf Url
attribute [local go_sem] Oper.semAt_some
set_option linter.unusedVariables false
theorem ret_hdr3 {fn : Func} {p u x : Tmp} (h : fn.results = #[.cell p 42, .tmp u, .tmp x]) (tmps : Array Value) (w : World) (B : Nat) (v : Value) (hp : tmps.getD p undef = .pointer (some ⟨B, 0, none⟩)) (hU : Boxed w B 42 v) :
    (results fn tmps).run Tryz.prog w = .ok (.tuple #[.agg #[v], tmps.getD u undef, tmps.getD x undef]) w := by
  have hp' : tmps[p]?.getD undef = .pointer (some ⟨B, 0, none⟩) := by simpa using hp
  simp [results, h, hp', asAddr, Result.andThen, run_loadVar_row w B 42 _ #[v] (0, 0) _ hU Tryz.underlying42 rfl (by kernel_rfl)]
def sliceNH : Value → Nat
  | .slice _ n _ => n
  | _ => 0
theorem wrong_nil (n : Nat) : wrongF ([], []) n = 2 := by unfold wrongF; rw [if_neg (by decide)]
theorem step_line (out : List Fld) (t : List UInt8) (h : t ≠ []) : goH t.length out t = if lineL t = [] then .inr (out, restL t) else if wrongF (fieldO (lineL t)) out.length = 0 then goH (restL t).length (out ++ [fieldO (lineL t)]) (restL t) else .inl (wrongF (fieldO (lineL t)) out.length) := by
  rw [goH_step out t h]
  unfold fieldO
  by_cases hm : (58 : UInt8) ∈ lineL t
  · simp only [if_pos hm]
  · simp only [if_neg hm, wrong_nil]
    rfl
theorem fieldO_len (l : List UInt8) : (fieldO l).1.length ≤ l.length ∧ (fieldO l).2.length ≤ l.length := by
  unfold fieldO
  split
  · exact ⟨len_ahead 58 l, Nat.le_trans (len_trim _) (len_tail 58 l)⟩
  · simp
theorem line_len (t : List UInt8) : (lineL t).length ≤ t.length := Nat.le_trans (chop_len _) (len_ahead 10 t)
def PaI (w : World) (l : List UInt8) (t : Value) (wr : World) : Prop :=
  ∃ (q0 : Option Addr) (n0 c0 : Nat) (tl : List UInt8) (out : List Fld) (v : Value), t = .slice q0 n0 c0 ∧ ByU w.heap.size wr (q0, n0, c0) tl ∧ n0 ≤ 1048576 ∧ Hid (goH l.length [] l = goH tl.length out tl) ∧ Boxed wr w.heap.size 42 (.slice none 0 0) ∧ Boxed wr (w.heap.size + 1) 42 v ∧
    wr.ownsRow (w.heap.size + 2) 138 2 v out.length (fdV out) ∧ out.length ≤ 64 ∧ Below w.heap.size w wr ∧ w.heap.size + 2 ≤ wr.heap.size
set_option maxRecDepth 100000 in
set_option maxHeartbeats 16000000 in
theorem Parse_any (q : Option Addr) (n c : Nat) (l : List UInt8) (w : World) (hG : Ug w) (h : By w (.slice q n c) l) (hn : n ≤ 1048576) :
    Calls Tryz.prog 20 #[.slice q n c] w (ParseOut (parseH l) w) := by
  obtain ⟨W0, hW0⟩ : ∃ W, (w.alloc (.cells #[.slice none 0 0] 42)).alloc (.cells #[.slice none 0 0] 42) = W := ⟨_, rfl⟩
  have A0 : Below w.heap.size w W0 := hW0 ▸ ((Below.refl _ w).alloc (Nat.le_refl _) _).alloc (by simp) _
  have b0 : Boxed W0 w.heap.size 42 (.slice none 0 0) := hW0 ▸ (Boxed.new w _ _).alloc _
  have b1 : Boxed W0 (w.heap.size + 1) 42 (.slice none 0 0) := by
    have := Boxed.new (w.alloc (.cells #[.slice none 0 0] 42)) 42 (.slice none 0 0)
    rw [World.size_alloc] at this
    exact hW0 ▸ this
  have hs0 : w.heap.size + 2 ≤ W0.heap.size := by rw [← hW0]; simp
  have hI : PaI w l (.slice q n c) W0 := ⟨q, n, c, l, [], _, rfl, (byU_of h).below A0, hn, Lib.hid rfl, b0, b1, World.ownsRow_nil _ _ _ _, by simp, A0, hs0⟩
  have HP := Lib.hid (show parseH l = goH l.length [] l from rfl)
  have HW0 := Lib.hid hW0
  have HGU := Lib.hid hG
  generalize parseH l = R at *
  clear hW0 A0 b0 b1 hs0 h hn hG
  go_enter Tryz.func20, Tryz.ntmps20
  go_wp2_with fail
  rw [HW0.out]
  go_loopw [0] (fun t wr => PaI w l t wr) (fun t _ => sliceNH t)
  case atStart => exact hI
  case round =>
    obtain ⟨q0, n0, c0, tl, out, v, rfl, hY, hn0, HG, e0, e1, hrow, hzs, hB, hsz⟩ := hrel
    clear hI HW0
    by_cases ht : n0 = 0
    · subst ht
      obtain rfl : tl = [] := List.eq_nil_of_length_eq_zero hY.1.at.1
      have HR := Lib.hid (show R = .inr (out, []) by rw [HP.out, HG.out, goH_nil])
      clear HG HP
      have HTM := Lib.hid (show 0 ≤ 1048576 by omega)
      have HTQ := Lib.hid (show ([] : List UInt8).length = 0 from rfl)
      obtain ⟨qv, cv, rfl, HH, _⟩ := hdr_open hrow rfl
      obtain ⟨wd, hwd⟩ : ∃ Z, wr.drew = Z := ⟨_, rfl⟩
      have hb : Below wr.heap.size wr wd := hwd ▸ ⟨rfl, rfl, rfl, Nat.le_refl _, fun _ _ => rfl⟩
      have Bd := hB.trans (hb.mono hB.size)
      replace e0 := (Keep.of_below hb).boxed e0 e0.lt
      replace e1 := (Keep.of_below hb).boxed e1 e1.lt
      replace HH := HH.below hb
      have hY2 := hY.below (hb.mono hB.size)
      have xH := e1.cell
      have HWD := Lib.hid hwd
      have hszd := Nat.le_trans hsz hb.size
      have HCL := Lib.hid (Clone_any q0 0 c0 [] wd hY2.1.at.1 (by have := HTM.out; omega) hY2.1.at.2.2.2.2)
      clear hwd hb hY hrow hB hsz hY2
      go_wp2_with fail
      refine pregion_any (fun X => X.cell? ⟨w.heap.size + 1, 0, none⟩ = some (.slice qv out.length cv)) (by kernel_rfl) ?_
      rw [HWD.out]
      refine wpAnyH_take (i := 0) (v := (.agg #[.slice qv out.length cv])) rfl (by kernel_rfl) (by kernel_rfl) (by kernel_rfl) (fun _ _ _ h => h) (.inl ⟨by kernel_rfl, ?_⟩) xH ?_
      · rintro w h1; go_simp <;> omega
      refine plist #[true, false, false, false, false, false] (by kernel_rfl) ?_
      refine wpAnyH_take (i := 1) (v := (.slice q0 0 c0)) rfl (by kernel_rfl) (by kernel_rfl) (by kernel_rfl) (fun _ _ _ h => h) (.inl ⟨by kernel_rfl, ?_⟩) xH ?_
      · rintro w h1; go_simp <;> omega
      refine plist #[true, true, false, false, false, false] (by kernel_rfl) ?_
      have con := HCL.out
      refine pone 2 (by kernel_rfl) rfl fun K hK => ?_
      go_simp
      refine con.mono ?_
      rintro e w3 ⟨p, rfl, hp, hb⟩
      have B3 := Bd.trans (hb.mono Bd.size)
      replace e0 := (Keep.of_below hb).boxed e0 e0.lt
      replace e1 := (Keep.of_below hb).boxed e1 e1.lt
      replace HH := HH.below hb
      replace hp := row_base hp hszd
      obtain ⟨qp, cp, rfl, _⟩ := row_open hp
      have xH3 := e1.cell
      clear con hb Bd HCL
      refine hK _ _ xH3 ?_
      clear hK K
      have c0' := e0.cell
      have z0' := e0.frozen
      have eR := e0.set (.slice qv out.length cv)
      have hBR := B3.setCell (p := ⟨w.heap.size, 0, none⟩) (Nat.le_refl _) (.slice qv out.length cv)
      have HH2 := HH.keep ((Keep.setCell (S := fun b => w.heap.size + 2 ≤ b) w3 ⟨w.heap.size, 0, none⟩ (.slice qv out.length cv) (by simp)))
      have HB2 := (row_bya (z := (qp, 0, cp)) (by rw [HTQ.out]; exact hp)).keep ((Keep.setCell (S := fun b => w.heap.size + 2 ≤ b) w3 ⟨w.heap.size, 0, none⟩ (.slice qv out.length cv) (by simp)))
      have xH4 := ((Keep.setCell (S := fun b => b = w.heap.size + 1) w3 ⟨w.heap.size, 0, none⟩ (.slice qv out.length cv) (by simp)).boxed e1 rfl).cell
      clear hp HH e1
      refine plist #[true, true, true, false, false, false] (by kernel_rfl) ?_
      refine pone 3 (by kernel_rfl) rfl fun K hK => ?_
      go_simp
      refine hK _ _ xH4 ?_
      clear hK K
      refine plist #[true, true, true, true, false, false] (by kernel_rfl) ?_
      refine pone 4 (by kernel_rfl) rfl fun K hK => ?_
      go_simp
      refine hK _ _ xH4 ?_
      clear hK K
      refine plist #[true, true, true, true, true, false] (by kernel_rfl) ?_
      refine pone 5 (by kernel_rfl) rfl fun K hK => ?_
      go_simp
      refine hK _ _ xH4 ?_
      clear hK K
      refine pdone (by kernel_rfl) ?_ _
      go_wp2
      refine bodyPost_ret (ret_hdr3 rfl _ _ w.heap.size _ rfl eR) rfl ?_
      rw [HR.out]
      exact ⟨qv, out.length, cv, qp, 0, cp, rfl, HH2.mono (by omega), HB2.mono (by omega), hBR⟩
    · have d0 : decide (0 < n0) = true := by simp; omega
      have HTL := Lib.hid (show tl.length = n0 from hY.1.at.1)
      have ht' : tl ≠ [] := fun e => by have := HTL.out; rw [e] at this; exact ht this.symm
      have con := nextLine_any q0 n0 c0 tl w.heap.size wr (HGU.out.on hB) hY hB.size hn0
      have HST := Lib.hid (HP.out.trans (HG.out.trans (step_line out tl ht')))
      have HLN := Lib.hid (show (restL tl).length < n0 by rw [← HTL.out]; exact rest_len tl ht')
      have HLL := Lib.hid (show (lineL tl).length ≤ n0 by rw [← HTL.out]; exact line_len tl)
      generalize lineL tl = L at *
      generalize restL tl = T at *
      have HTN := Lib.hid hn0
      clear ht ht' HG hY HTL
      go_wp2_with fail
      refine con.mono ?_
      rintro e w2 ⟨⟨qa, na, ca⟩, ⟨qb, nb, cb⟩, rfl, hz1, hz2, hb⟩
      have HLA := Lib.hid (show L.length = na from hz1.1.at.1)
      have HTB := Lib.hid (show T.length = nb from hz2.1.at.1)
      simp only [vC]
      have B2 := hB.trans (hb.mono hB.size)
      have hsz2 := Nat.le_trans hsz hb.size
      replace e0 := (Keep.of_below hb).boxed e0 e0.lt
      replace e1 := (Keep.of_below hb).boxed e1 e1.lt
      replace hrow := (Keep.of_below hb).row hrow (fun b h => (hrow.lt b h).2)
      clear con hb d0 hB hsz
      by_cases hLn : na = 0
      · subst hLn
        have hLe : L = [] := List.eq_nil_of_length_eq_zero HLA.out
        have HR := Lib.hid (show R = .inr (out, T) by rw [HST.out, if_pos hLe])
        have hY := hz2
        have hB := B2
        have hsz := hsz2
        clear hLe HST hz1 hz2 B2 hsz2 HP
        have HTM := Lib.hid (show nb ≤ 1048576 by have := HLN.out; have := HTN.out; have := HTB.out; omega)
        have HTQ := HTB
        obtain ⟨qv, cv, rfl, HH, _⟩ := hdr_open hrow rfl
        obtain ⟨wd, hwd⟩ : ∃ Z, w2.drew = Z := ⟨_, rfl⟩
        have hb : Below w2.heap.size w2 wd := hwd ▸ ⟨rfl, rfl, rfl, Nat.le_refl _, fun _ _ => rfl⟩
        have Bd := hB.trans (hb.mono hB.size)
        replace e0 := (Keep.of_below hb).boxed e0 e0.lt
        replace e1 := (Keep.of_below hb).boxed e1 e1.lt
        replace HH := HH.below hb
        have hY2 := hY.below (hb.mono hB.size)
        have xH := e1.cell
        have HWD := Lib.hid hwd
        have hszd := Nat.le_trans hsz hb.size
        have HCL := Lib.hid (Clone_any qb nb cb T wd hY2.1.at.1 (by have := HTM.out; omega) hY2.1.at.2.2.2.2)
        clear hwd hb hY hrow hB hsz hY2
        go_wp2_with fail
        refine pregion_any (fun X => X.cell? ⟨w.heap.size + 1, 0, none⟩ = some (.slice qv out.length cv)) (by kernel_rfl) ?_
        rw [HWD.out]
        refine wpAnyH_take (i := 0) (v := (.agg #[.slice qv out.length cv])) rfl (by kernel_rfl) (by kernel_rfl) (by kernel_rfl) (fun _ _ _ h => h) (.inl ⟨by kernel_rfl, ?_⟩) xH ?_
        · rintro w h1; go_simp <;> omega
        refine plist #[true, false, false, false, false, false] (by kernel_rfl) ?_
        refine wpAnyH_take (i := 1) (v := (.slice qb nb cb)) rfl (by kernel_rfl) (by kernel_rfl) (by kernel_rfl) (fun _ _ _ h => h) (.inl ⟨by kernel_rfl, ?_⟩) xH ?_
        · rintro w h1; go_simp <;> omega
        refine plist #[true, true, false, false, false, false] (by kernel_rfl) ?_
        have con := HCL.out
        refine pone 2 (by kernel_rfl) rfl fun K hK => ?_
        go_simp
        refine con.mono ?_
        rintro e w3 ⟨p, rfl, hp, hb⟩
        have B3 := Bd.trans (hb.mono Bd.size)
        replace e0 := (Keep.of_below hb).boxed e0 e0.lt
        replace e1 := (Keep.of_below hb).boxed e1 e1.lt
        replace HH := HH.below hb
        replace hp := row_base hp hszd
        obtain ⟨qp, cp, rfl, _⟩ := row_open hp
        have xH3 := e1.cell
        clear con hb Bd HCL
        refine hK _ _ xH3 ?_
        clear hK K
        have c0' := e0.cell
        have z0' := e0.frozen
        have eR := e0.set (.slice qv out.length cv)
        have hBR := B3.setCell (p := ⟨w.heap.size, 0, none⟩) (Nat.le_refl _) (.slice qv out.length cv)
        have HH2 := HH.keep ((Keep.setCell (S := fun b => w.heap.size + 2 ≤ b) w3 ⟨w.heap.size, 0, none⟩ (.slice qv out.length cv) (by simp)))
        have HB2 := (row_bya (z := (qp, nb, cp)) (by rw [HTQ.out]; exact hp)).keep ((Keep.setCell (S := fun b => w.heap.size + 2 ≤ b) w3 ⟨w.heap.size, 0, none⟩ (.slice qv out.length cv) (by simp)))
        have xH4 := ((Keep.setCell (S := fun b => b = w.heap.size + 1) w3 ⟨w.heap.size, 0, none⟩ (.slice qv out.length cv) (by simp)).boxed e1 rfl).cell
        clear hp HH e1
        refine plist #[true, true, true, false, false, false] (by kernel_rfl) ?_
        refine pone 3 (by kernel_rfl) rfl fun K hK => ?_
        go_simp
        refine hK _ _ xH4 ?_
        clear hK K
        refine plist #[true, true, true, true, false, false] (by kernel_rfl) ?_
        refine pone 4 (by kernel_rfl) rfl fun K hK => ?_
        go_simp
        refine hK _ _ xH4 ?_
        clear hK K
        refine plist #[true, true, true, true, true, false] (by kernel_rfl) ?_
        refine pone 5 (by kernel_rfl) rfl fun K hK => ?_
        go_simp
        refine hK _ _ xH4 ?_
        clear hK K
        refine pdone (by kernel_rfl) ?_ _
        go_wp2
        refine bodyPost_ret (ret_hdr3 rfl _ _ w.heap.size _ rfl eR) rfl ?_
        rw [HR.out]
        exact ⟨qv, out.length, cv, qp, nb, cp, rfl, HH2.mono (by omega), HB2.mono (by omega), hBR⟩
      · have dL : ((na : Int) == 0) = false := by simp; omega
        have hLe : L ≠ [] := fun e => by have := HLA.out; rw [e] at this; exact hLn this.symm
        have con := fieldOf_any qa na ca L w2 hz1.1 (by have := HLL.out; have := HLA.out; have := HTN.out; omega)
        have HFL := Lib.hid (fieldO_len L)
        have HS2 := Lib.hid (show R = if wrongF (fieldO L) out.length = 0 then goH T.length (out ++ [fieldO L]) T else .inl (wrongF (fieldO L) out.length) by rw [HST.out, if_neg hLe])
        obtain ⟨⟨x, y⟩, hF⟩ : ∃ f, fieldO L = f := ⟨_, rfl⟩
        rw [hF] at con HFL HS2
        simp only at con
        clear hLe hLn HST hz1 hF
        go_wp2_with fail
        refine con.mono ?_
        rintro e w4 ⟨⟨qx, nx, cx⟩, ⟨qy, ny, cy⟩, rfl, hx, hy, hb⟩
        have HXL := Lib.hid (show x.length = nx from hx.1.at.1)
        have HYL := Lib.hid (show y.length = ny from hy.1.at.1)
        simp only [vC]
        have B4 := B2.trans (hb.mono B2.size)
        have hsz4 := Nat.le_trans hsz2 hb.size
        have HOW := Lib.hid (show ∀ b, v.ownBlock = some b → w.heap.size + 2 ≤ b ∧ b < w2.heap.size from fun b h => hrow.lt b h)
        replace e0 := (Keep.of_below hb).boxed e0 e0.lt
        replace e1 := (Keep.of_below hb).boxed e1 e1.lt
        replace hrow := (Keep.of_below hb).row hrow (fun b h => (hrow.lt b h).2)
        replace hz2 := hz2.below (hb.mono B2.size)
        have con := add_any (w.heap.size + 1) (w.heap.size + 2) v out qx nx cx x qy ny cy y w4 (HGU.out.on B4) e1 hrow (by omega) hsz4 hx.1 hy.1 (by have h : x.length ≤ L.length := HFL.out.1; have := HXL.out; have := HLL.out; have := HTN.out; omega) (by have h : y.length ≤ L.length := HFL.out.2; have := HYL.out; have := HLL.out; have := HTN.out; omega) hzs
          (fun a ha h0 => ⟨by have := hx.2 a ha h0; omega, fun ho => by have := hx.2 a ha h0; have := (HOW.out _ ho).2; omega⟩)
          (fun a ha h0 => ⟨by have := hy.2 a ha h0; omega, fun ho => by have := hy.2 a ha h0; have := (HOW.out _ ho).2; omega⟩)
        clear hb dL B2 hsz2 hx hy e1 hrow
        go_wp2_with fail
        refine con.mono ?_
        rintro e w5 ⟨v5, rfl, e1, hrow, hb, hK⟩
        have B5 := B4.trans (hb.mono (Nat.le_succ _))
        have hsz5 := Nat.le_trans hsz4 hb.size
        replace e0 := hK.boxed e0 ⟨by omega, fun ho => by have := (HOW.out _ ho).1; omega⟩
        replace hz2 := hz2.below (hb.mono (Nat.le_succ _))
        clear con hb hK B4 hsz4 HOW
        obtain ⟨en, hen⟩ : ∃ e, wrongF (x, y) out.length = e := ⟨_, rfl⟩
        have HWF := Lib.hid hen
        rw [hen] at HS2 ⊢
        by_cases hz : en = 0
        · subst hz
          have hadd : addL out (x, y) = out ++ [(x, y)] := by unfold addL; rw [if_pos hen]
          rw [hadd] at hrow
          rw [if_pos rfl] at HS2
          have hlt64 := (wrong_field _ _ HWF.out).2
          have HGF := Lib.hid (show goH l.length [] l = goH T.length (out ++ [(x, y)]) T by rw [← HP.out]; exact HS2.out)
          have hTl : nb ≤ 1048576 := by have := HLN.out; have := HTN.out; have := HTB.out; omega
          clear hen hadd
          go_wp2
          go_roundw
          case rel => exact ⟨qb, nb, cb, T, out ++ [(x, y)], _, rfl, hz2, hTl, HGF, e0, e1, hrow, by simp; omega, B5, hsz5⟩
          case measure => have := HLN.out; have := HTB.out; simp [sliceNH]; omega
        · have d2 : (en != 0) = true := by simpa using hz
          have HR := Lib.hid (show R = .inl en by rw [HS2.out, if_neg hz])
          clear HS2 hz hen hrow hz2
          have z0' := e0.frozen
          have c0' := e0.cell
          have eR := e0.set (.slice none 0 0)
          have hBR := B5.setCell (p := ⟨w.heap.size, 0, none⟩) (Nat.le_refl _) (.slice none 0 0)
          clear e0 e1
          go_wp2
          refine bodyPost_ret (ret_hdr3 rfl _ _ w.heap.size _ rfl eR) rfl ?_
          rw [HR.out]
          exact ⟨none, 0, 0, none, 0, 0, rfl, HdrIn.nil _ _, ByA.nil _ _, hBR⟩
end Go.Proofs.YtedglpfdibamdaaGreatDoor.Hdr
namespace Go.Proofs.YtedglpfdibamdaaGreatDoor.Pol
open Url Org Frm Cls
set_option linter.unusedVariables false
theorem of_covers (l : List Hdr.Fld) (o : QO) (p : PolP) (h : ofP l o = .inr p) : impB (ownF o) p.prv = true ∧ flowsB p.ctx p.clr = true := by
  unfold ofP at h
  repeat' (split at h <;> try (cases h; done))
  rename_i hc
  cases h
  simpa using hc
theorem of_parts (l : List Hdr.Fld) (o : QO) (p : PolP) (hl : ∀ f ∈ l, f.2.length ≤ 1300) (h : ofP l o = .inr p) : POk p := by
  have hv : ∀ name, ∀ v ∈ Hdr.valuesL l name, v.length ≤ 1300 := fun name v hv => by
    unfold Hdr.valuesL at hv
    obtain ⟨f, hf, rfl⟩ := List.mem_map.1 hv
    exact hl f (List.mem_filter.1 hf).1
  have p0 := plain_ok o
  unfold ofP at h
  split at h
  · cases h
  rename_i d hd
  split at h
  · cases h
  rename_i c hc
  split at h
  · cases h
  rename_i r hr
  split at h
  · cases h
  rename_i f hf
  split at h
  · cases h
  rename_i k hk
  split at h
  · cases h
  rename_i g hg
  split at h
  · cases h
    exact ⟨one_in LOk l _ _ _ _ p0.data (fun v _ y hy => parse_labOk v y hy) hd, one_in LOk l _ _ _ _ p0.ctx (fun v _ y hy => parse_labOk v y hy) hc, one_in LOk l _ _ _ _ p0.clr (fun v _ y hy => parse_labOk v y hy) hr,
      one_in (fun f => f.length ≤ 16) l _ _ _ _ p0.prv (fun v _ y hy => (parseF_ok v y hy).few) hf,
      one_in (fun x : List (List UInt8) => (∀ c ∈ x, SrcOk c) ∧ x.length ≤ 32) l _ _ _ _ p0.con (fun v hm y hy => parse_in v y (hv _ v hm) hy) hk,
      one_in (fun x : List (List UInt8) => (∀ c ∈ x, SrcOk c) ∧ x.length ≤ 32) l _ _ _ _ p0.frm (fun v hm y hy => parse_in v y (hv _ v hm) hy) hg⟩
  · cases h
end Go.Proofs.YtedglpfdibamdaaGreatDoor.Pol
namespace Go.Proofs.YtedglpfdibamdaaGreatDoor.Pol
open Go.RowKit Go.Shelf Url Org Frm Cls Lbl
set_option linter.unusedVariables false
theorem agg_one {a x : Value} (h : Value.agg #[a] = .agg #[x]) : a = x := by
  have := Array.mk.inj (Value.agg.inj h)
  simpa using this
end Go.Proofs.YtedglpfdibamdaaGreatDoor.Pol
