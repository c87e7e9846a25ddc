/- A region that draws its order: two operations may come up. Conditions: as Ord. -/
import Derived.Test.YtkpcakmkmkidpaaOrd
namespace Go.Proofs.Ytkpcakmkmkidpaa
open Go
/-- Two operations may come up. -/
theorem anyH_pair {F : Fence} {n : Nat} {P : Program} {ops : Array Oper} {Q : Exit → Act → World → Prop} {md : Region.Mode} {S : World → Prop} (i j : Nat) {fuel : Nat} {listed : Array Bool} {a : Act} {w : World} {o o' : Oper} (hr : Region.ready md ops listed = [i, j]) (ho : ops[i]? = some o) (ho' : ops[j]? = some o')
    (h : ∀ K : Act → World → Prop, (∀ a' w', S w' → anyH F n P md ops Q S fuel (listed.setIfInBounds i true) a' w' → K a' w') →
      if Region.wanted o (yielded ops a.tmps) = true then Oper.wpIn F n P o a w K Q else (∀ f, o.about P w a.eval = some f → F.fn f) ∧ K (a.put o.dst undef) w)
    (h' : ∀ K : Act → World → Prop, (∀ a' w', S w' → anyH F n P md ops Q S fuel (listed.setIfInBounds j true) a' w' → K a' w') →
      if Region.wanted o' (yielded ops a.tmps) = true then Oper.wpIn F n P o' a w K Q else (∀ f, o'.about P w a.eval = some f → F.fn f) ∧ K (a.put o'.dst undef) w) : anyH F n P md ops Q S (fuel + 1) listed a w := by
  refine ⟨fun h0 => (by rw [hr] at h0; cases h0), fun k hk => ?_⟩
  rw [hr] at hk
  rcases List.mem_cons.1 hk with rfl | hk
  · exact wpOpIn_step ho fun K' hK' => h K' fun a' w' hs ha => hK' a' w' ⟨hs, ha⟩
  · obtain rfl : k = j := by simpa using hk
    exact wpOpIn_step ho' fun K' hK' => h' K' fun a' w' hs ha => hK' a' w' ⟨hs, ha⟩
end Go.Proofs.Ytkpcakmkmkidpaa
