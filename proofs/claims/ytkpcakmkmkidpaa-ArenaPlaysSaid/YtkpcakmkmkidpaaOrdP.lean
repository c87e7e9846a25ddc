/- A region that draws its order, outside of rounds: a step at a time. Conditions: the region does not panic. -/
import Derived.Deep.RegionHeld3
namespace Go.Proofs.Ytkpcakmkmkidpaa
open Go
variable {P : Program} {ops : Array Oper} {Q : Exit → Act → World → Prop} {md : Region.Mode} {S : World → Prop}

/-- The beginning; the region does not panic. -/
theorem pregion_any {id : Nat} {a : Act} {w : World} (S : World → Prop) (hm : P.follows .mixedOrders = true)
    (h : wpAnyH P .any ops (NoPanic Q) S ops.size (Array.replicate ops.size false) a w.drew) : (Code.region id ops true).wp P Q a w :=
  Code.wp_mono NoPanic.imp (wp_region_held hm h)

/-- Number i alone may come up. -/
theorem pone (i : Nat) {fuel : Nat} {listed : Array Bool} {a : Act} {w : World} {o : Oper} (hr : Region.ready md ops listed = [i]) (ho : ops[i]? = some o)
    (h : ∀ K : Act → World → Prop, (∀ a' w', S w' → wpAnyH P md ops Q S fuel (listed.setIfInBounds i true) a' w' → K a' w') →
      if Region.wanted o (yielded ops a.tmps) = true then Oper.wp P o a w K Q else K (a.put o.dst undef) w) : wpAnyH P md ops Q S (fuel + 1) listed a w :=
  wpAnyH_all hr (by simp) (AllReadyH.cons ho (fun K hK => h K fun a' w' hs ha => hK.out a' w' hs fun _ => ha) AllReadyH.nil)

/-- All have come up. -/
theorem pdone {listed : Array Bool} {a : Act} {w : World} (hr : Region.ready md ops listed = []) (h : Q .normal a w) : ∀ fuel, wpAnyH P md ops (NoPanic Q) S fuel listed a w :=
  wpAnyH_done hr h

/-- What has come up, as a literal. -/
theorem plist (L : Array Bool) {fuel : Nat} {listed : Array Bool} {a : Act} {w : World} (he : listed = L) (h : wpAnyH P md ops Q S fuel L a w) : wpAnyH P md ops Q S fuel listed a w := he ▸ h

/-- More may be asked of each world from here on. -/
theorem pmore {S' : World → Prop} (hs : ∀ w, S' w → S w) : ∀ {fuel : Nat} {listed : Array Bool} {a : Act} {w : World}, wpAnyH P md ops Q S' fuel listed a w → wpAnyH P md ops Q S fuel listed a w
  | 0, _, _, _, h => h
  | _ + 1, _, _, _, h => ⟨h.1, fun i hi => wpOp_mono (fun _ w' h' => ⟨hs w' h'.1, pmore hs h'.2⟩) (h.2 i hi)⟩

end Go.Proofs.Ytkpcakmkmkidpaa
