/-
  No cell of these rows narrows 'for every input' (looked for: loops, veiled, ifaces, maps, wideKeys, modest, calm, conditions, laid).
  DERIVED. THE GIVEN ROWS OF THIS SEAT. 7 by the template 'for every input the law returns true; each argument reads behind the call as it read before'; 0 by the template 'total and deterministic' (their statements: YtnpfboligmnhpaaTotals.lean).
  GIVEN WITH THE SEED: the statements are not yours to turn. If you find one false, say at which input.
  Laid BY PROGRAM, IN A SANDBOX (cutbox-rows.mjs): the forced cells as the released guide's own fill.sh prints them over the translation 81bde3a3fe385104… (all of the seat's roots in one cut). By AI agents, Wed Nov 11 2026. No macro, syntax, notation, axiom, sorry.
-/
import Derived.Test.YtnpfboligmnhpaaChecked
import GoSem.Claim
import GoSem.ClaimJoined
import GoSem.ClaimMapViews
import Derived.JoinedTies
import Derived.KernelRfl
namespace Go.Proofs.Ytnpfboligmnhpaa
/- THE CELL 'sum', in the pinned program and in every row, IS THE sha256 OF THE DUMP (.gsa) THAT YtnpfboligmnhpaaProg.lean LOADS. Nothing in Lean hashes anything: it is a label: what it is worth is what the hold of that sum in a sandbox is worth. -/
noncomputable def Try.pinned : Pinned := { name := "ytnpfboligmnhpaa", sum := "81bde3a3fe385104ad2a94ca70f3e725b1a5d5972777e1aa6f866063785f78ce", checked := Try.checked }
namespace Rows
def none {H : Type} : Left H := { results := [], args := [] }

/-- 'laws.FnRuns': WHATEVER THE INPUT: true; the input reads as it did. -/
def fnRunsSpec : ChangeSpec := { name := "fnRuns", fn := fun _ => fun
  | [d] => { results := [.lit (.bool true)], args := [d] }
  | _ => none }
def fnRunsRow : OpenClaim := { program := "ytnpfboligmnhpaa", sum := "81bde3a3fe385104ad2a94ca70f3e725b1a5d5972777e1aa6f866063785f78ce", func := "loop.example/g00965/laws.FnRuns", spec := "fnRuns", plainKeys := false, apart := false }
def FnRunsSaid : Prop := fnRunsRow.holds Try.pinned (OpenSpec.ofChange fnRunsSpec)

/-- ITS FALSE NEIGHBOUR: 'it returns false'. Refute it at one input. -/
def fnRunsWrong : ChangeSpec := { name := "fnRuns", fn := fun _ => fun
  | [d] => { results := [.lit (.bool false)], args := [d] }
  | _ => none }
def FnRunsWrongFalsely : Prop := fnRunsRow.holds Try.pinned (OpenSpec.ofChange fnRunsWrong)

/-- 'laws.FnExactRunNew': WHATEVER THE INPUT: true; the input reads as it did. -/
def fnExactRunNewSpec : ChangeSpec := { name := "fnExactRunNew", fn := fun _ => fun
  | [d1, d2] => { results := [.lit (.bool true)], args := [d1, d2] }
  | _ => none }
def fnExactRunNewRow : OpenClaim := { program := "ytnpfboligmnhpaa", sum := "81bde3a3fe385104ad2a94ca70f3e725b1a5d5972777e1aa6f866063785f78ce", func := "loop.example/g00965/laws.FnExactRunNew", spec := "fnExactRunNew", plainKeys := false, apart := false }
def FnExactRunNewSaid : Prop := fnExactRunNewRow.holds Try.pinned (OpenSpec.ofChange fnExactRunNewSpec)

/-- ITS FALSE NEIGHBOUR: 'it returns false'. Refute it at one input. -/
def fnExactRunNewWrong : ChangeSpec := { name := "fnExactRunNew", fn := fun _ => fun
  | [d1, d2] => { results := [.lit (.bool false)], args := [d1, d2] }
  | _ => none }
def FnExactRunNewWrongFalsely : Prop := fnExactRunNewRow.holds Try.pinned (OpenSpec.ofChange fnExactRunNewWrong)

/-- 'laws.FnExactRunOk': WHATEVER THE INPUT: true; the input reads as it did. -/
def fnExactRunOkSpec : ChangeSpec := { name := "fnExactRunOk", fn := fun _ => fun
  | [d] => { results := [.lit (.bool true)], args := [d] }
  | _ => none }
def fnExactRunOkRow : OpenClaim := { program := "ytnpfboligmnhpaa", sum := "81bde3a3fe385104ad2a94ca70f3e725b1a5d5972777e1aa6f866063785f78ce", func := "loop.example/g00965/laws.FnExactRunOk", spec := "fnExactRunOk", plainKeys := false, apart := false }
def FnExactRunOkSaid : Prop := fnExactRunOkRow.holds Try.pinned (OpenSpec.ofChange fnExactRunOkSpec)

/-- ITS FALSE NEIGHBOUR: 'it returns false'. Refute it at one input. -/
def fnExactRunOkWrong : ChangeSpec := { name := "fnExactRunOk", fn := fun _ => fun
  | [d] => { results := [.lit (.bool false)], args := [d] }
  | _ => none }
def FnExactRunOkWrongFalsely : Prop := fnExactRunOkRow.holds Try.pinned (OpenSpec.ofChange fnExactRunOkWrong)

/-- 'laws.FnExactTasksIn': WHATEVER THE INPUT: true; the input reads as it did. -/
def fnExactTasksInSpec : ChangeSpec := { name := "fnExactTasksIn", fn := fun _ => fun
  | [d1, d2] => { results := [.lit (.bool true)], args := [d1, d2] }
  | _ => none }
def fnExactTasksInRow : OpenClaim := { program := "ytnpfboligmnhpaa", sum := "81bde3a3fe385104ad2a94ca70f3e725b1a5d5972777e1aa6f866063785f78ce", func := "loop.example/g00965/laws.FnExactTasksIn", spec := "fnExactTasksIn", plainKeys := false, apart := false }
def FnExactTasksInSaid : Prop := fnExactTasksInRow.holds Try.pinned (OpenSpec.ofChange fnExactTasksInSpec)

/-- ITS FALSE NEIGHBOUR: 'it returns false'. Refute it at one input. -/
def fnExactTasksInWrong : ChangeSpec := { name := "fnExactTasksIn", fn := fun _ => fun
  | [d1, d2] => { results := [.lit (.bool false)], args := [d1, d2] }
  | _ => none }
def FnExactTasksInWrongFalsely : Prop := fnExactTasksInRow.holds Try.pinned (OpenSpec.ofChange fnExactTasksInWrong)

/-- 'laws.FnExactRunDone': WHATEVER THE INPUT: true; the input reads as it did. -/
def fnExactRunDoneSpec : ChangeSpec := { name := "fnExactRunDone", fn := fun _ => fun
  | [d1, d2] => { results := [.lit (.bool true)], args := [d1, d2] }
  | _ => none }
def fnExactRunDoneRow : OpenClaim := { program := "ytnpfboligmnhpaa", sum := "81bde3a3fe385104ad2a94ca70f3e725b1a5d5972777e1aa6f866063785f78ce", func := "loop.example/g00965/laws.FnExactRunDone", spec := "fnExactRunDone", plainKeys := false, apart := false }
def FnExactRunDoneSaid : Prop := fnExactRunDoneRow.holds Try.pinned (OpenSpec.ofChange fnExactRunDoneSpec)

/-- ITS FALSE NEIGHBOUR: 'it returns false'. Refute it at one input. -/
def fnExactRunDoneWrong : ChangeSpec := { name := "fnExactRunDone", fn := fun _ => fun
  | [d1, d2] => { results := [.lit (.bool false)], args := [d1, d2] }
  | _ => none }
def FnExactRunDoneWrongFalsely : Prop := fnExactRunDoneRow.holds Try.pinned (OpenSpec.ofChange fnExactRunDoneWrong)

/-- 'laws.FnExactRunFails': WHATEVER THE INPUT: true; the input reads as it did. -/
def fnExactRunFailsSpec : ChangeSpec := { name := "fnExactRunFails", fn := fun _ => fun
  | [d1, d2] => { results := [.lit (.bool true)], args := [d1, d2] }
  | _ => none }
def fnExactRunFailsRow : OpenClaim := { program := "ytnpfboligmnhpaa", sum := "81bde3a3fe385104ad2a94ca70f3e725b1a5d5972777e1aa6f866063785f78ce", func := "loop.example/g00965/laws.FnExactRunFails", spec := "fnExactRunFails", plainKeys := false, apart := false }
def FnExactRunFailsSaid : Prop := fnExactRunFailsRow.holds Try.pinned (OpenSpec.ofChange fnExactRunFailsSpec)

/-- ITS FALSE NEIGHBOUR: 'it returns false'. Refute it at one input. -/
def fnExactRunFailsWrong : ChangeSpec := { name := "fnExactRunFails", fn := fun _ => fun
  | [d1, d2] => { results := [.lit (.bool false)], args := [d1, d2] }
  | _ => none }
def FnExactRunFailsWrongFalsely : Prop := fnExactRunFailsRow.holds Try.pinned (OpenSpec.ofChange fnExactRunFailsWrong)

/-- 'laws.FnExactRunLeft': WHATEVER THE INPUT: true; the input reads as it did. -/
def fnExactRunLeftSpec : ChangeSpec := { name := "fnExactRunLeft", fn := fun _ => fun
  | [d] => { results := [.lit (.bool true)], args := [d] }
  | _ => none }
def fnExactRunLeftRow : OpenClaim := { program := "ytnpfboligmnhpaa", sum := "81bde3a3fe385104ad2a94ca70f3e725b1a5d5972777e1aa6f866063785f78ce", func := "loop.example/g00965/laws.FnExactRunLeft", spec := "fnExactRunLeft", plainKeys := false, apart := false }
def FnExactRunLeftSaid : Prop := fnExactRunLeftRow.holds Try.pinned (OpenSpec.ofChange fnExactRunLeftSpec)

/-- ITS FALSE NEIGHBOUR: 'it returns false'. Refute it at one input. -/
def fnExactRunLeftWrong : ChangeSpec := { name := "fnExactRunLeft", fn := fun _ => fun
  | [d] => { results := [.lit (.bool false)], args := [d] }
  | _ => none }
def FnExactRunLeftWrongFalsely : Prop := fnExactRunLeftRow.holds Try.pinned (OpenSpec.ofChange fnExactRunLeftWrong)

/- THE SECOND FORM. 'bulk': how many values and letters a reading holds, each counted each time it is reached (what is shared counts as often as it is met; a slice's spare places count too). A statement '..UptoSaid' is the law's where the arguments, and the package variables that the reading takes, are together of bulk at most 1048576: NARROWER than '..Said'. Prove '..Said' where nothing that the law and all that it calls make is longer than what came in: it says more and counts as full. Else prove '..UptoSaid'. A law counts once. -/
mutual
def uptoBulk {H : Type} : DataW H → Nat
  | .lit (.string bytes) => bytes.length + 1
  | .lit _ => 1
  | .nil => 1
  | .ptr d => uptoBulk d + 1
  | .slice elems spare => uptoBulkAll elems + uptoBulkAll spare + 1
  | .agg parts => uptoBulkAll parts + 1
  | .iface _ d => uptoBulk d + 1
  | .map entries => uptoBulkEntries entries + 1
  | .held _ => 1
def uptoBulkAll {H : Type} : List (DataW H) → Nat
  | [] => 0
  | d :: r => uptoBulk d + uptoBulkAll r
def uptoBulkEntries {H : Type} : List (Lit × DataW H) → Nat
  | [] => 0
  | x :: r => uptoBulkEntry x + uptoBulkEntries r
def uptoBulkEntry {H : Type} : Lit × DataW H → Nat
  | (.string bytes, d) => bytes.length + uptoBulk d + 1
  | (_, d) => uptoBulk d + 1
 end
def uptoSmall : (H : Type) → List (DataW H) → Bool := fun _ ds => decide (uptoBulkAll ds ≤ 1048576)
def OpenSpec.upto (s : _root_.Go.ChangeSpec) : _root_.Go.OpenSpec := { _root_.Go.OpenSpec.ofChange s with cond := some uptoSmall }

/-- 'laws.FnRuns', WHERE WHAT IT READS IS OF BULK AT MOST 1048576: true; the input reads as it did. -/
def fnRunsUptoRow : OpenClaim := { program := "ytnpfboligmnhpaa", sum := "81bde3a3fe385104ad2a94ca70f3e725b1a5d5972777e1aa6f866063785f78ce", func := "loop.example/g00965/laws.FnRuns", spec := "fnRuns", plainKeys := false, apart := false, narrowed := true }
def FnRunsUptoSaid : Prop := fnRunsUptoRow.holds Try.pinned (OpenSpec.upto fnRunsSpec)

/-- 'laws.FnExactRunNew', WHERE WHAT IT READS IS OF BULK AT MOST 1048576: true; the input reads as it did. -/
def fnExactRunNewUptoRow : OpenClaim := { program := "ytnpfboligmnhpaa", sum := "81bde3a3fe385104ad2a94ca70f3e725b1a5d5972777e1aa6f866063785f78ce", func := "loop.example/g00965/laws.FnExactRunNew", spec := "fnExactRunNew", plainKeys := false, apart := false, narrowed := true }
def FnExactRunNewUptoSaid : Prop := fnExactRunNewUptoRow.holds Try.pinned (OpenSpec.upto fnExactRunNewSpec)

/-- 'laws.FnExactRunOk', WHERE WHAT IT READS IS OF BULK AT MOST 1048576: true; the input reads as it did. -/
def fnExactRunOkUptoRow : OpenClaim := { program := "ytnpfboligmnhpaa", sum := "81bde3a3fe385104ad2a94ca70f3e725b1a5d5972777e1aa6f866063785f78ce", func := "loop.example/g00965/laws.FnExactRunOk", spec := "fnExactRunOk", plainKeys := false, apart := false, narrowed := true }
def FnExactRunOkUptoSaid : Prop := fnExactRunOkUptoRow.holds Try.pinned (OpenSpec.upto fnExactRunOkSpec)

/-- 'laws.FnExactTasksIn', WHERE WHAT IT READS IS OF BULK AT MOST 1048576: true; the input reads as it did. -/
def fnExactTasksInUptoRow : OpenClaim := { program := "ytnpfboligmnhpaa", sum := "81bde3a3fe385104ad2a94ca70f3e725b1a5d5972777e1aa6f866063785f78ce", func := "loop.example/g00965/laws.FnExactTasksIn", spec := "fnExactTasksIn", plainKeys := false, apart := false, narrowed := true }
def FnExactTasksInUptoSaid : Prop := fnExactTasksInUptoRow.holds Try.pinned (OpenSpec.upto fnExactTasksInSpec)

/-- 'laws.FnExactRunDone', WHERE WHAT IT READS IS OF BULK AT MOST 1048576: true; the input reads as it did. -/
def fnExactRunDoneUptoRow : OpenClaim := { program := "ytnpfboligmnhpaa", sum := "81bde3a3fe385104ad2a94ca70f3e725b1a5d5972777e1aa6f866063785f78ce", func := "loop.example/g00965/laws.FnExactRunDone", spec := "fnExactRunDone", plainKeys := false, apart := false, narrowed := true }
def FnExactRunDoneUptoSaid : Prop := fnExactRunDoneUptoRow.holds Try.pinned (OpenSpec.upto fnExactRunDoneSpec)

/-- 'laws.FnExactRunFails', WHERE WHAT IT READS IS OF BULK AT MOST 1048576: true; the input reads as it did. -/
def fnExactRunFailsUptoRow : OpenClaim := { program := "ytnpfboligmnhpaa", sum := "81bde3a3fe385104ad2a94ca70f3e725b1a5d5972777e1aa6f866063785f78ce", func := "loop.example/g00965/laws.FnExactRunFails", spec := "fnExactRunFails", plainKeys := false, apart := false, narrowed := true }
def FnExactRunFailsUptoSaid : Prop := fnExactRunFailsUptoRow.holds Try.pinned (OpenSpec.upto fnExactRunFailsSpec)

/-- 'laws.FnExactRunLeft', WHERE WHAT IT READS IS OF BULK AT MOST 1048576: true; the input reads as it did. -/
def fnExactRunLeftUptoRow : OpenClaim := { program := "ytnpfboligmnhpaa", sum := "81bde3a3fe385104ad2a94ca70f3e725b1a5d5972777e1aa6f866063785f78ce", func := "loop.example/g00965/laws.FnExactRunLeft", spec := "fnExactRunLeft", plainKeys := false, apart := false, narrowed := true }
def FnExactRunLeftUptoSaid : Prop := fnExactRunLeftUptoRow.holds Try.pinned (OpenSpec.upto fnExactRunLeftSpec)

end Rows
end Go.Proofs.Ytnpfboligmnhpaa
