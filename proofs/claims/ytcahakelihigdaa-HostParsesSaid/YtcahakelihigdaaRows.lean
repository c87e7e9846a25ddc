/-
  No cell of these rows narrows 'for every input' (looked for: loops, veiled, ifaces, maps, wideKeys, modest, calm, conditions, laid).
  DERIVED. THE GIVEN ROWS OF THIS SEAT. 4 by the template 'for every input the law returns true; each argument reads behind the call as it read before'; 0 by the template 'total and deterministic' (their statements: YtcahakelihigdaaTotals.lean).
  GIVEN WITH THE SEED: the statements are not yours to turn. If you find one false, say at which input.
  Laid BY PROGRAM, IN A SANDBOX (cutbox-rows.mjs): the forced cells as the released guide's own fill.sh prints them over the translation 2708b9b65057fd5e… (all of the seat's roots in one cut). By AI agents, Wed Nov 11 2026. No macro, syntax, notation, axiom, sorry.
-/
import Derived.Test.YtcahakelihigdaaChecked
import GoSem.Claim
import GoSem.ClaimJoined
import GoSem.ClaimMapViews
import Derived.JoinedTies
import Derived.KernelRfl
namespace Go.Proofs.Ytcahakelihigdaa
/- THE CELL 'sum', in the pinned program and in every row, IS THE sha256 OF THE DUMP (.gsa) THAT YtcahakelihigdaaProg.lean LOADS. Nothing in Lean hashes anything: it is a label: what it is worth is what the hold of that sum in a sandbox is worth. -/
noncomputable def Try.pinned : Pinned := { name := "ytcahakelihigdaa", sum := "2708b9b65057fd5ef7524581abb81acd37944f216a9b3c48d5311302c324f756", checked := Try.checked }
namespace Rows
def none {H : Type} : Left H := { results := [], args := [] }

/-- 'cordonlaw04.HostParses': WHATEVER THE INPUT: true; the input reads as it did. -/
def hostParsesSpec : ChangeSpec := { name := "hostParses", fn := fun _ => fun
  | [d] => { results := [.lit (.bool true)], args := [d] }
  | _ => none }
def hostParsesRow : OpenClaim := { program := "ytcahakelihigdaa", sum := "2708b9b65057fd5ef7524581abb81acd37944f216a9b3c48d5311302c324f756", func := "cordon/cordonlaw04.HostParses", spec := "hostParses", unfollowed := true, recurses := true, apart := false }
def HostParsesSaid : Prop := hostParsesRow.holds Try.pinned (OpenSpec.ofChange hostParsesSpec)

/-- ITS FALSE NEIGHBOUR: 'it returns false'. Refute it at one input. -/
def hostParsesWrong : ChangeSpec := { name := "hostParses", fn := fun _ => fun
  | [d] => { results := [.lit (.bool false)], args := [d] }
  | _ => none }
def HostParsesWrongFalsely : Prop := hostParsesRow.holds Try.pinned (OpenSpec.ofChange hostParsesWrong)

/-- 'cordonlaw04.HostUps': WHATEVER THE INPUT: true; the input reads as it did. -/
def hostUpsSpec : ChangeSpec := { name := "hostUps", fn := fun _ => fun
  | [d1, d2] => { results := [.lit (.bool true)], args := [d1, d2] }
  | _ => none }
def hostUpsRow : OpenClaim := { program := "ytcahakelihigdaa", sum := "2708b9b65057fd5ef7524581abb81acd37944f216a9b3c48d5311302c324f756", func := "cordon/cordonlaw04.HostUps", spec := "hostUps", inPlace := ["internal/bytealg.IndexByte"], unfollowed := true, recurses := true, apart := false }
def HostUpsSaid : Prop := hostUpsRow.holds Try.pinned (OpenSpec.ofChange hostUpsSpec)

/-- ITS FALSE NEIGHBOUR: 'it returns false'. Refute it at one input. -/
def hostUpsWrong : ChangeSpec := { name := "hostUps", fn := fun _ => fun
  | [d1, d2] => { results := [.lit (.bool false)], args := [d1, d2] }
  | _ => none }
def HostUpsWrongFalsely : Prop := hostUpsRow.holds Try.pinned (OpenSpec.ofChange hostUpsWrong)

/-- 'cordonlaw04.HostBack': WHATEVER THE INPUT: true; the input reads as it did. -/
def hostBackSpec : ChangeSpec := { name := "hostBack", fn := fun _ => fun
  | [d] => { results := [.lit (.bool true)], args := [d] }
  | _ => none }
def hostBackRow : OpenClaim := { program := "ytcahakelihigdaa", sum := "2708b9b65057fd5ef7524581abb81acd37944f216a9b3c48d5311302c324f756", func := "cordon/cordonlaw04.HostBack", spec := "hostBack", inPlace := ["internal/bytealg.IndexByte"], unfollowed := true, recurses := true, apart := false }
def HostBackSaid : Prop := hostBackRow.holds Try.pinned (OpenSpec.ofChange hostBackSpec)

/-- ITS FALSE NEIGHBOUR: 'it returns false'. Refute it at one input. -/
def hostBackWrong : ChangeSpec := { name := "hostBack", fn := fun _ => fun
  | [d] => { results := [.lit (.bool false)], args := [d] }
  | _ => none }
def HostBackWrongFalsely : Prop := hostBackRow.holds Try.pinned (OpenSpec.ofChange hostBackWrong)

/-- 'cordonlaw04.HostLong': WHATEVER THE INPUT: true; the input reads as it did. -/
def hostLongSpec : ChangeSpec := { name := "hostLong", fn := fun _ => fun
  | [d1, d2, d3] => { results := [.lit (.bool true)], args := [d1, d2, d3] }
  | _ => none }
def hostLongRow : OpenClaim := { program := "ytcahakelihigdaa", sum := "2708b9b65057fd5ef7524581abb81acd37944f216a9b3c48d5311302c324f756", func := "cordon/cordonlaw04.HostLong", spec := "hostLong", unfollowed := true, recurses := true, apart := false }
def HostLongSaid : Prop := hostLongRow.holds Try.pinned (OpenSpec.ofChange hostLongSpec)

/-- ITS FALSE NEIGHBOUR: 'it returns false'. Refute it at one input. -/
def hostLongWrong : ChangeSpec := { name := "hostLong", fn := fun _ => fun
  | [d1, d2, d3] => { results := [.lit (.bool false)], args := [d1, d2, d3] }
  | _ => none }
def HostLongWrongFalsely : Prop := hostLongRow.holds Try.pinned (OpenSpec.ofChange hostLongWrong)

/- THE SECOND FORM. 'bulk': how many values and letters a reading holds, each counted each time it is reached (what is shared counts as often as it is met; a slice's spare places count too). A statement '..UptoSaid' is the law's where the arguments, and the package variables that the reading takes, are together of bulk at most 1048576: NARROWER than '..Said'. Prove '..Said' where nothing that the law and all that it calls make is longer than what came in: it says more and counts as full. Else prove '..UptoSaid'. A law counts once. -/
mutual
def uptoBulk {H : Type} : DataW H → Nat
  | .lit (.string bytes) => bytes.length + 1
  | .lit _ => 1
  | .nil => 1
  | .ptr d => uptoBulk d + 1
  | .slice elems spare => uptoBulkAll elems + uptoBulkAll spare + 1
  | .agg parts => uptoBulkAll parts + 1
  | .iface _ d => uptoBulk d + 1
  | .map entries => uptoBulkEntries entries + 1
  | .held _ => 1
def uptoBulkAll {H : Type} : List (DataW H) → Nat
  | [] => 0
  | d :: r => uptoBulk d + uptoBulkAll r
def uptoBulkEntries {H : Type} : List (Lit × DataW H) → Nat
  | [] => 0
  | x :: r => uptoBulkEntry x + uptoBulkEntries r
def uptoBulkEntry {H : Type} : Lit × DataW H → Nat
  | (.string bytes, d) => bytes.length + uptoBulk d + 1
  | (_, d) => uptoBulk d + 1
 end
def uptoSmall : (H : Type) → List (DataW H) → Bool := fun _ ds => decide (uptoBulkAll ds ≤ 1048576)
def OpenSpec.upto (s : _root_.Go.ChangeSpec) : _root_.Go.OpenSpec := { _root_.Go.OpenSpec.ofChange s with cond := some uptoSmall }

/-- 'cordonlaw04.HostParses', WHERE WHAT IT READS IS OF BULK AT MOST 1048576: true; the input reads as it did. -/
def hostParsesUptoRow : OpenClaim := { program := "ytcahakelihigdaa", sum := "2708b9b65057fd5ef7524581abb81acd37944f216a9b3c48d5311302c324f756", func := "cordon/cordonlaw04.HostParses", spec := "hostParses", unfollowed := true, recurses := true, apart := false, narrowed := true }
def HostParsesUptoSaid : Prop := hostParsesUptoRow.holds Try.pinned (OpenSpec.upto hostParsesSpec)

/-- 'cordonlaw04.HostUps', WHERE WHAT IT READS IS OF BULK AT MOST 1048576: true; the input reads as it did. -/
def hostUpsUptoRow : OpenClaim := { program := "ytcahakelihigdaa", sum := "2708b9b65057fd5ef7524581abb81acd37944f216a9b3c48d5311302c324f756", func := "cordon/cordonlaw04.HostUps", spec := "hostUps", inPlace := ["internal/bytealg.IndexByte"], unfollowed := true, recurses := true, apart := false, narrowed := true }
def HostUpsUptoSaid : Prop := hostUpsUptoRow.holds Try.pinned (OpenSpec.upto hostUpsSpec)

/-- 'cordonlaw04.HostBack', WHERE WHAT IT READS IS OF BULK AT MOST 1048576: true; the input reads as it did. -/
def hostBackUptoRow : OpenClaim := { program := "ytcahakelihigdaa", sum := "2708b9b65057fd5ef7524581abb81acd37944f216a9b3c48d5311302c324f756", func := "cordon/cordonlaw04.HostBack", spec := "hostBack", inPlace := ["internal/bytealg.IndexByte"], unfollowed := true, recurses := true, apart := false, narrowed := true }
def HostBackUptoSaid : Prop := hostBackUptoRow.holds Try.pinned (OpenSpec.upto hostBackSpec)

/-- 'cordonlaw04.HostLong', WHERE WHAT IT READS IS OF BULK AT MOST 1048576: true; the input reads as it did. -/
def hostLongUptoRow : OpenClaim := { program := "ytcahakelihigdaa", sum := "2708b9b65057fd5ef7524581abb81acd37944f216a9b3c48d5311302c324f756", func := "cordon/cordonlaw04.HostLong", spec := "hostLong", unfollowed := true, recurses := true, apart := false, narrowed := true }
def HostLongUptoSaid : Prop := hostLongUptoRow.holds Try.pinned (OpenSpec.upto hostLongSpec)

end Rows
end Go.Proofs.Ytcahakelihigdaa
