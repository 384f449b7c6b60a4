/-
  No cell of these rows narrows 'for every input' (looked for: loops, veiled, ifaces, maps, wideKeys, modest, calm, conditions, laid).
  DERIVED. THE GIVEN ROWS OF THIS SEAT. 13 by the template 'for every input the law returns true; each argument reads behind the call as it read before'; 0 by the template 'total and deterministic' (their statements: YtegoncendpboiaaTotals.lean).
  GIVEN WITH THE SEED: the statements are not yours to turn. If you find one false, say at which input.
  Laid BY PROGRAM, IN A SANDBOX (cutbox-rows.mjs): the forced cells as the released guide's own fill.sh prints them over the translation fbec01abebfc66e5… (all of the seat's roots in one cut). By AI agents, Wed Nov 11 2026. No macro, syntax, notation, axiom, sorry.
-/
import Derived.Test.YtegoncendpboiaaChecked
import GoSem.Claim
import GoSem.ClaimJoined
import GoSem.ClaimMapViews
import Derived.JoinedTies
import Derived.KernelRfl
namespace Go.Proofs.Ytegoncendpboiaa
/- THE CELL 'sum', in the pinned program and in every row, IS THE sha256 OF THE DUMP (.gsa) THAT YtegoncendpboiaaProg.lean LOADS. Nothing in Lean hashes anything: it is a label: what it is worth is what the hold of that sum in a sandbox is worth. -/
noncomputable def Try.pinned : Pinned := { name := "ytegoncendpboiaa", sum := "fbec01abebfc66e580198372dd10c88cea6096cb3230e1ded2eae08b7490e5bd", checked := Try.checked }
namespace Rows
def none {H : Type} : Left H := { results := [], args := [] }

/-- 'laws.FnExactBesideOf': WHATEVER THE INPUT: true; the input reads as it did. -/
def fnExactBesideOfSpec : ChangeSpec := { name := "fnExactBesideOf", fn := fun _ => fun
  | [d1, d2, d3] => { results := [.lit (.bool true)], args := [d1, d2, d3] }
  | _ => none }
def fnExactBesideOfRow : OpenClaim := { program := "ytegoncendpboiaa", sum := "fbec01abebfc66e580198372dd10c88cea6096cb3230e1ded2eae08b7490e5bd", func := "loop.example/wholetensors/laws.FnExactBesideOf", spec := "fnExactBesideOf", apart := false }
def FnExactBesideOfSaid : Prop := fnExactBesideOfRow.holds Try.pinned (OpenSpec.ofChange fnExactBesideOfSpec)

/-- ITS FALSE NEIGHBOUR: 'it returns false'. Refute it at one input. -/
def fnExactBesideOfWrong : ChangeSpec := { name := "fnExactBesideOf", fn := fun _ => fun
  | [d1, d2, d3] => { results := [.lit (.bool false)], args := [d1, d2, d3] }
  | _ => none }
def FnExactBesideOfWrongFalsely : Prop := fnExactBesideOfRow.holds Try.pinned (OpenSpec.ofChange fnExactBesideOfWrong)

/-- 'laws.FnExactProductOf': WHATEVER THE INPUT: true; the input reads as it did. -/
def fnExactProductOfSpec : ChangeSpec := { name := "fnExactProductOf", fn := fun _ => fun
  | [d1, d2] => { results := [.lit (.bool true)], args := [d1, d2] }
  | _ => none }
def fnExactProductOfRow : OpenClaim := { program := "ytegoncendpboiaa", sum := "fbec01abebfc66e580198372dd10c88cea6096cb3230e1ded2eae08b7490e5bd", func := "loop.example/wholetensors/laws.FnExactProductOf", spec := "fnExactProductOf", apart := false }
def FnExactProductOfSaid : Prop := fnExactProductOfRow.holds Try.pinned (OpenSpec.ofChange fnExactProductOfSpec)

/-- ITS FALSE NEIGHBOUR: 'it returns false'. Refute it at one input. -/
def fnExactProductOfWrong : ChangeSpec := { name := "fnExactProductOf", fn := fun _ => fun
  | [d1, d2] => { results := [.lit (.bool false)], args := [d1, d2] }
  | _ => none }
def FnExactProductOfWrongFalsely : Prop := fnExactProductOfRow.holds Try.pinned (OpenSpec.ofChange fnExactProductOfWrong)

/-- 'laws.FnTurnOf': WHATEVER THE INPUT: true; the input reads as it did. -/
def fnTurnOfSpec : ChangeSpec := { name := "fnTurnOf", fn := fun _ => fun
  | [d] => { results := [.lit (.bool true)], args := [d] }
  | _ => none }
def fnTurnOfRow : OpenClaim := { program := "ytegoncendpboiaa", sum := "fbec01abebfc66e580198372dd10c88cea6096cb3230e1ded2eae08b7490e5bd", func := "loop.example/wholetensors/laws.FnTurnOf", spec := "fnTurnOf", apart := false }
def FnTurnOfSaid : Prop := fnTurnOfRow.holds Try.pinned (OpenSpec.ofChange fnTurnOfSpec)

/-- ITS FALSE NEIGHBOUR: 'it returns false'. Refute it at one input. -/
def fnTurnOfWrong : ChangeSpec := { name := "fnTurnOf", fn := fun _ => fun
  | [d] => { results := [.lit (.bool false)], args := [d] }
  | _ => none }
def FnTurnOfWrongFalsely : Prop := fnTurnOfRow.holds Try.pinned (OpenSpec.ofChange fnTurnOfWrong)

/-- 'laws.FnSumAlong': WHATEVER THE INPUT: true; the input reads as it did. -/
def fnSumAlongSpec : ChangeSpec := { name := "fnSumAlong", fn := fun _ => fun
  | [d] => { results := [.lit (.bool true)], args := [d] }
  | _ => none }
def fnSumAlongRow : OpenClaim := { program := "ytegoncendpboiaa", sum := "fbec01abebfc66e580198372dd10c88cea6096cb3230e1ded2eae08b7490e5bd", func := "loop.example/wholetensors/laws.FnSumAlong", spec := "fnSumAlong", apart := false }
def FnSumAlongSaid : Prop := fnSumAlongRow.holds Try.pinned (OpenSpec.ofChange fnSumAlongSpec)

/-- ITS FALSE NEIGHBOUR: 'it returns false'. Refute it at one input. -/
def fnSumAlongWrong : ChangeSpec := { name := "fnSumAlong", fn := fun _ => fun
  | [d] => { results := [.lit (.bool false)], args := [d] }
  | _ => none }
def FnSumAlongWrongFalsely : Prop := fnSumAlongRow.holds Try.pinned (OpenSpec.ofChange fnSumAlongWrong)

/-- 'laws.FnCutOf': WHATEVER THE INPUT: true; the input reads as it did. -/
def fnCutOfSpec : ChangeSpec := { name := "fnCutOf", fn := fun _ => fun
  | [d] => { results := [.lit (.bool true)], args := [d] }
  | _ => none }
def fnCutOfRow : OpenClaim := { program := "ytegoncendpboiaa", sum := "fbec01abebfc66e580198372dd10c88cea6096cb3230e1ded2eae08b7490e5bd", func := "loop.example/wholetensors/laws.FnCutOf", spec := "fnCutOf", apart := false }
def FnCutOfSaid : Prop := fnCutOfRow.holds Try.pinned (OpenSpec.ofChange fnCutOfSpec)

/-- ITS FALSE NEIGHBOUR: 'it returns false'. Refute it at one input. -/
def fnCutOfWrong : ChangeSpec := { name := "fnCutOf", fn := fun _ => fun
  | [d] => { results := [.lit (.bool false)], args := [d] }
  | _ => none }
def FnCutOfWrongFalsely : Prop := fnCutOfRow.holds Try.pinned (OpenSpec.ofChange fnCutOfWrong)

/-- 'laws.FnExactExprOk': WHATEVER THE INPUT: true; the input reads as it did. -/
def fnExactExprOkSpec : ChangeSpec := { name := "fnExactExprOk", fn := fun _ => fun
  | [d] => { results := [.lit (.bool true)], args := [d] }
  | _ => none }
def fnExactExprOkRow : OpenClaim := { program := "ytegoncendpboiaa", sum := "fbec01abebfc66e580198372dd10c88cea6096cb3230e1ded2eae08b7490e5bd", func := "loop.example/wholetensors/laws.FnExactExprOk", spec := "fnExactExprOk", apart := false }
def FnExactExprOkSaid : Prop := fnExactExprOkRow.holds Try.pinned (OpenSpec.ofChange fnExactExprOkSpec)

/-- ITS FALSE NEIGHBOUR: 'it returns false'. Refute it at one input. -/
def fnExactExprOkWrong : ChangeSpec := { name := "fnExactExprOk", fn := fun _ => fun
  | [d] => { results := [.lit (.bool false)], args := [d] }
  | _ => none }
def FnExactExprOkWrongFalsely : Prop := fnExactExprOkRow.holds Try.pinned (OpenSpec.ofChange fnExactExprOkWrong)

/-- 'laws.FnExactShapesOf': WHATEVER THE INPUT: true; the input reads as it did. -/
def fnExactShapesOfSpec : ChangeSpec := { name := "fnExactShapesOf", fn := fun _ => fun
  | [d] => { results := [.lit (.bool true)], args := [d] }
  | _ => none }
def fnExactShapesOfRow : OpenClaim := { program := "ytegoncendpboiaa", sum := "fbec01abebfc66e580198372dd10c88cea6096cb3230e1ded2eae08b7490e5bd", func := "loop.example/wholetensors/laws.FnExactShapesOf", spec := "fnExactShapesOf", apart := false }
def FnExactShapesOfSaid : Prop := fnExactShapesOfRow.holds Try.pinned (OpenSpec.ofChange fnExactShapesOfSpec)

/-- ITS FALSE NEIGHBOUR: 'it returns false'. Refute it at one input. -/
def fnExactShapesOfWrong : ChangeSpec := { name := "fnExactShapesOf", fn := fun _ => fun
  | [d] => { results := [.lit (.bool false)], args := [d] }
  | _ => none }
def FnExactShapesOfWrongFalsely : Prop := fnExactShapesOfRow.holds Try.pinned (OpenSpec.ofChange fnExactShapesOfWrong)

/-- 'laws.FnExactInputsOk': WHATEVER THE INPUT: true; the input reads as it did. -/
def fnExactInputsOkSpec : ChangeSpec := { name := "fnExactInputsOk", fn := fun _ => fun
  | [d1, d2] => { results := [.lit (.bool true)], args := [d1, d2] }
  | _ => none }
def fnExactInputsOkRow : OpenClaim := { program := "ytegoncendpboiaa", sum := "fbec01abebfc66e580198372dd10c88cea6096cb3230e1ded2eae08b7490e5bd", func := "loop.example/wholetensors/laws.FnExactInputsOk", spec := "fnExactInputsOk", apart := false }
def FnExactInputsOkSaid : Prop := fnExactInputsOkRow.holds Try.pinned (OpenSpec.ofChange fnExactInputsOkSpec)

/-- ITS FALSE NEIGHBOUR: 'it returns false'. Refute it at one input. -/
def fnExactInputsOkWrong : ChangeSpec := { name := "fnExactInputsOk", fn := fun _ => fun
  | [d1, d2] => { results := [.lit (.bool false)], args := [d1, d2] }
  | _ => none }
def FnExactInputsOkWrongFalsely : Prop := fnExactInputsOkRow.holds Try.pinned (OpenSpec.ofChange fnExactInputsOkWrong)

/-- 'laws.FnExactUsesOf': WHATEVER THE INPUT: true; the input reads as it did. -/
def fnExactUsesOfSpec : ChangeSpec := { name := "fnExactUsesOf", fn := fun _ => fun
  | [d] => { results := [.lit (.bool true)], args := [d] }
  | _ => none }
def fnExactUsesOfRow : OpenClaim := { program := "ytegoncendpboiaa", sum := "fbec01abebfc66e580198372dd10c88cea6096cb3230e1ded2eae08b7490e5bd", func := "loop.example/wholetensors/laws.FnExactUsesOf", spec := "fnExactUsesOf", apart := false }
def FnExactUsesOfSaid : Prop := fnExactUsesOfRow.holds Try.pinned (OpenSpec.ofChange fnExactUsesOfSpec)

/-- ITS FALSE NEIGHBOUR: 'it returns false'. Refute it at one input. -/
def fnExactUsesOfWrong : ChangeSpec := { name := "fnExactUsesOf", fn := fun _ => fun
  | [d] => { results := [.lit (.bool false)], args := [d] }
  | _ => none }
def FnExactUsesOfWrongFalsely : Prop := fnExactUsesOfRow.holds Try.pinned (OpenSpec.ofChange fnExactUsesOfWrong)

/-- 'laws.FnExactNeededOf': WHATEVER THE INPUT: true; the input reads as it did. -/
def fnExactNeededOfSpec : ChangeSpec := { name := "fnExactNeededOf", fn := fun _ => fun
  | [d] => { results := [.lit (.bool true)], args := [d] }
  | _ => none }
def fnExactNeededOfRow : OpenClaim := { program := "ytegoncendpboiaa", sum := "fbec01abebfc66e580198372dd10c88cea6096cb3230e1ded2eae08b7490e5bd", func := "loop.example/wholetensors/laws.FnExactNeededOf", spec := "fnExactNeededOf", apart := false }
def FnExactNeededOfSaid : Prop := fnExactNeededOfRow.holds Try.pinned (OpenSpec.ofChange fnExactNeededOfSpec)

/-- ITS FALSE NEIGHBOUR: 'it returns false'. Refute it at one input. -/
def fnExactNeededOfWrong : ChangeSpec := { name := "fnExactNeededOf", fn := fun _ => fun
  | [d] => { results := [.lit (.bool false)], args := [d] }
  | _ => none }
def FnExactNeededOfWrongFalsely : Prop := fnExactNeededOfRow.holds Try.pinned (OpenSpec.ofChange fnExactNeededOfWrong)

/-- 'laws.FnExactSmoothOk': WHATEVER THE INPUT: true; the input reads as it did. -/
def fnExactSmoothOkSpec : ChangeSpec := { name := "fnExactSmoothOk", fn := fun _ => fun
  | [d] => { results := [.lit (.bool true)], args := [d] }
  | _ => none }
def fnExactSmoothOkRow : OpenClaim := { program := "ytegoncendpboiaa", sum := "fbec01abebfc66e580198372dd10c88cea6096cb3230e1ded2eae08b7490e5bd", func := "loop.example/wholetensors/laws.FnExactSmoothOk", spec := "fnExactSmoothOk", apart := false }
def FnExactSmoothOkSaid : Prop := fnExactSmoothOkRow.holds Try.pinned (OpenSpec.ofChange fnExactSmoothOkSpec)

/-- ITS FALSE NEIGHBOUR: 'it returns false'. Refute it at one input. -/
def fnExactSmoothOkWrong : ChangeSpec := { name := "fnExactSmoothOk", fn := fun _ => fun
  | [d] => { results := [.lit (.bool false)], args := [d] }
  | _ => none }
def FnExactSmoothOkWrongFalsely : Prop := fnExactSmoothOkRow.holds Try.pinned (OpenSpec.ofChange fnExactSmoothOkWrong)

/-- 'laws.FnNeededOf': WHATEVER THE INPUT: true; the input reads as it did. -/
def fnNeededOfSpec : ChangeSpec := { name := "fnNeededOf", fn := fun _ => fun
  | [d] => { results := [.lit (.bool true)], args := [d] }
  | _ => none }
def fnNeededOfRow : OpenClaim := { program := "ytegoncendpboiaa", sum := "fbec01abebfc66e580198372dd10c88cea6096cb3230e1ded2eae08b7490e5bd", func := "loop.example/wholetensors/laws.FnNeededOf", spec := "fnNeededOf", apart := false }
def FnNeededOfSaid : Prop := fnNeededOfRow.holds Try.pinned (OpenSpec.ofChange fnNeededOfSpec)

/-- ITS FALSE NEIGHBOUR: 'it returns false'. Refute it at one input. -/
def fnNeededOfWrong : ChangeSpec := { name := "fnNeededOf", fn := fun _ => fun
  | [d] => { results := [.lit (.bool false)], args := [d] }
  | _ => none }
def FnNeededOfWrongFalsely : Prop := fnNeededOfRow.holds Try.pinned (OpenSpec.ofChange fnNeededOfWrong)

/-- 'laws.FnSmooth': WHATEVER THE INPUT: true; the input reads as it did. -/
def fnSmoothSpec : ChangeSpec := { name := "fnSmooth", fn := fun _ => fun
  | [d] => { results := [.lit (.bool true)], args := [d] }
  | _ => none }
def fnSmoothRow : OpenClaim := { program := "ytegoncendpboiaa", sum := "fbec01abebfc66e580198372dd10c88cea6096cb3230e1ded2eae08b7490e5bd", func := "loop.example/wholetensors/laws.FnSmooth", spec := "fnSmooth", apart := false }
def FnSmoothSaid : Prop := fnSmoothRow.holds Try.pinned (OpenSpec.ofChange fnSmoothSpec)

/-- ITS FALSE NEIGHBOUR: 'it returns false'. Refute it at one input. -/
def fnSmoothWrong : ChangeSpec := { name := "fnSmooth", fn := fun _ => fun
  | [d] => { results := [.lit (.bool false)], args := [d] }
  | _ => none }
def FnSmoothWrongFalsely : Prop := fnSmoothRow.holds Try.pinned (OpenSpec.ofChange fnSmoothWrong)

/- THE SECOND FORM. 'bulk': how many values and letters a reading holds, each counted each time it is reached (what is shared counts as often as it is met; a slice's spare places count too). A statement '..UptoSaid' is the law's where the arguments, and the package variables that the reading takes, are together of bulk at most 1048576: NARROWER than '..Said'. Prove '..Said' where nothing that the law and all that it calls make is longer than what came in: it says more and counts as full. Else prove '..UptoSaid'. A law counts once. -/
mutual
def uptoBulk {H : Type} : DataW H → Nat
  | .lit (.string bytes) => bytes.length + 1
  | .lit _ => 1
  | .nil => 1
  | .ptr d => uptoBulk d + 1
  | .slice elems spare => uptoBulkAll elems + uptoBulkAll spare + 1
  | .agg parts => uptoBulkAll parts + 1
  | .iface _ d => uptoBulk d + 1
  | .map entries => uptoBulkEntries entries + 1
  | .held _ => 1
def uptoBulkAll {H : Type} : List (DataW H) → Nat
  | [] => 0
  | d :: r => uptoBulk d + uptoBulkAll r
def uptoBulkEntries {H : Type} : List (Lit × DataW H) → Nat
  | [] => 0
  | x :: r => uptoBulkEntry x + uptoBulkEntries r
def uptoBulkEntry {H : Type} : Lit × DataW H → Nat
  | (.string bytes, d) => bytes.length + uptoBulk d + 1
  | (_, d) => uptoBulk d + 1
 end
def uptoSmall : (H : Type) → List (DataW H) → Bool := fun _ ds => decide (uptoBulkAll ds ≤ 1048576)
def OpenSpec.upto (s : _root_.Go.ChangeSpec) : _root_.Go.OpenSpec := { _root_.Go.OpenSpec.ofChange s with cond := some uptoSmall }

/-- 'laws.FnExactBesideOf', WHERE WHAT IT READS IS OF BULK AT MOST 1048576: true; the input reads as it did. -/
def fnExactBesideOfUptoRow : OpenClaim := { program := "ytegoncendpboiaa", sum := "fbec01abebfc66e580198372dd10c88cea6096cb3230e1ded2eae08b7490e5bd", func := "loop.example/wholetensors/laws.FnExactBesideOf", spec := "fnExactBesideOf", apart := false, narrowed := true }
def FnExactBesideOfUptoSaid : Prop := fnExactBesideOfUptoRow.holds Try.pinned (OpenSpec.upto fnExactBesideOfSpec)

/-- 'laws.FnExactProductOf', WHERE WHAT IT READS IS OF BULK AT MOST 1048576: true; the input reads as it did. -/
def fnExactProductOfUptoRow : OpenClaim := { program := "ytegoncendpboiaa", sum := "fbec01abebfc66e580198372dd10c88cea6096cb3230e1ded2eae08b7490e5bd", func := "loop.example/wholetensors/laws.FnExactProductOf", spec := "fnExactProductOf", apart := false, narrowed := true }
def FnExactProductOfUptoSaid : Prop := fnExactProductOfUptoRow.holds Try.pinned (OpenSpec.upto fnExactProductOfSpec)

/-- 'laws.FnTurnOf', WHERE WHAT IT READS IS OF BULK AT MOST 1048576: true; the input reads as it did. -/
def fnTurnOfUptoRow : OpenClaim := { program := "ytegoncendpboiaa", sum := "fbec01abebfc66e580198372dd10c88cea6096cb3230e1ded2eae08b7490e5bd", func := "loop.example/wholetensors/laws.FnTurnOf", spec := "fnTurnOf", apart := false, narrowed := true }
def FnTurnOfUptoSaid : Prop := fnTurnOfUptoRow.holds Try.pinned (OpenSpec.upto fnTurnOfSpec)

/-- 'laws.FnSumAlong', WHERE WHAT IT READS IS OF BULK AT MOST 1048576: true; the input reads as it did. -/
def fnSumAlongUptoRow : OpenClaim := { program := "ytegoncendpboiaa", sum := "fbec01abebfc66e580198372dd10c88cea6096cb3230e1ded2eae08b7490e5bd", func := "loop.example/wholetensors/laws.FnSumAlong", spec := "fnSumAlong", apart := false, narrowed := true }
def FnSumAlongUptoSaid : Prop := fnSumAlongUptoRow.holds Try.pinned (OpenSpec.upto fnSumAlongSpec)

/-- 'laws.FnCutOf', WHERE WHAT IT READS IS OF BULK AT MOST 1048576: true; the input reads as it did. -/
def fnCutOfUptoRow : OpenClaim := { program := "ytegoncendpboiaa", sum := "fbec01abebfc66e580198372dd10c88cea6096cb3230e1ded2eae08b7490e5bd", func := "loop.example/wholetensors/laws.FnCutOf", spec := "fnCutOf", apart := false, narrowed := true }
def FnCutOfUptoSaid : Prop := fnCutOfUptoRow.holds Try.pinned (OpenSpec.upto fnCutOfSpec)

/-- 'laws.FnExactExprOk', WHERE WHAT IT READS IS OF BULK AT MOST 1048576: true; the input reads as it did. -/
def fnExactExprOkUptoRow : OpenClaim := { program := "ytegoncendpboiaa", sum := "fbec01abebfc66e580198372dd10c88cea6096cb3230e1ded2eae08b7490e5bd", func := "loop.example/wholetensors/laws.FnExactExprOk", spec := "fnExactExprOk", apart := false, narrowed := true }
def FnExactExprOkUptoSaid : Prop := fnExactExprOkUptoRow.holds Try.pinned (OpenSpec.upto fnExactExprOkSpec)

/-- 'laws.FnExactShapesOf', WHERE WHAT IT READS IS OF BULK AT MOST 1048576: true; the input reads as it did. -/
def fnExactShapesOfUptoRow : OpenClaim := { program := "ytegoncendpboiaa", sum := "fbec01abebfc66e580198372dd10c88cea6096cb3230e1ded2eae08b7490e5bd", func := "loop.example/wholetensors/laws.FnExactShapesOf", spec := "fnExactShapesOf", apart := false, narrowed := true }
def FnExactShapesOfUptoSaid : Prop := fnExactShapesOfUptoRow.holds Try.pinned (OpenSpec.upto fnExactShapesOfSpec)

/-- 'laws.FnExactInputsOk', WHERE WHAT IT READS IS OF BULK AT MOST 1048576: true; the input reads as it did. -/
def fnExactInputsOkUptoRow : OpenClaim := { program := "ytegoncendpboiaa", sum := "fbec01abebfc66e580198372dd10c88cea6096cb3230e1ded2eae08b7490e5bd", func := "loop.example/wholetensors/laws.FnExactInputsOk", spec := "fnExactInputsOk", apart := false, narrowed := true }
def FnExactInputsOkUptoSaid : Prop := fnExactInputsOkUptoRow.holds Try.pinned (OpenSpec.upto fnExactInputsOkSpec)

/-- 'laws.FnExactUsesOf', WHERE WHAT IT READS IS OF BULK AT MOST 1048576: true; the input reads as it did. -/
def fnExactUsesOfUptoRow : OpenClaim := { program := "ytegoncendpboiaa", sum := "fbec01abebfc66e580198372dd10c88cea6096cb3230e1ded2eae08b7490e5bd", func := "loop.example/wholetensors/laws.FnExactUsesOf", spec := "fnExactUsesOf", apart := false, narrowed := true }
def FnExactUsesOfUptoSaid : Prop := fnExactUsesOfUptoRow.holds Try.pinned (OpenSpec.upto fnExactUsesOfSpec)

/-- 'laws.FnExactNeededOf', WHERE WHAT IT READS IS OF BULK AT MOST 1048576: true; the input reads as it did. -/
def fnExactNeededOfUptoRow : OpenClaim := { program := "ytegoncendpboiaa", sum := "fbec01abebfc66e580198372dd10c88cea6096cb3230e1ded2eae08b7490e5bd", func := "loop.example/wholetensors/laws.FnExactNeededOf", spec := "fnExactNeededOf", apart := false, narrowed := true }
def FnExactNeededOfUptoSaid : Prop := fnExactNeededOfUptoRow.holds Try.pinned (OpenSpec.upto fnExactNeededOfSpec)

/-- 'laws.FnExactSmoothOk', WHERE WHAT IT READS IS OF BULK AT MOST 1048576: true; the input reads as it did. -/
def fnExactSmoothOkUptoRow : OpenClaim := { program := "ytegoncendpboiaa", sum := "fbec01abebfc66e580198372dd10c88cea6096cb3230e1ded2eae08b7490e5bd", func := "loop.example/wholetensors/laws.FnExactSmoothOk", spec := "fnExactSmoothOk", apart := false, narrowed := true }
def FnExactSmoothOkUptoSaid : Prop := fnExactSmoothOkUptoRow.holds Try.pinned (OpenSpec.upto fnExactSmoothOkSpec)

/-- 'laws.FnNeededOf', WHERE WHAT IT READS IS OF BULK AT MOST 1048576: true; the input reads as it did. -/
def fnNeededOfUptoRow : OpenClaim := { program := "ytegoncendpboiaa", sum := "fbec01abebfc66e580198372dd10c88cea6096cb3230e1ded2eae08b7490e5bd", func := "loop.example/wholetensors/laws.FnNeededOf", spec := "fnNeededOf", apart := false, narrowed := true }
def FnNeededOfUptoSaid : Prop := fnNeededOfUptoRow.holds Try.pinned (OpenSpec.upto fnNeededOfSpec)

/-- 'laws.FnSmooth', WHERE WHAT IT READS IS OF BULK AT MOST 1048576: true; the input reads as it did. -/
def fnSmoothUptoRow : OpenClaim := { program := "ytegoncendpboiaa", sum := "fbec01abebfc66e580198372dd10c88cea6096cb3230e1ded2eae08b7490e5bd", func := "loop.example/wholetensors/laws.FnSmooth", spec := "fnSmooth", apart := false, narrowed := true }
def FnSmoothUptoSaid : Prop := fnSmoothUptoRow.holds Try.pinned (OpenSpec.upto fnSmoothSpec)

end Rows
end Go.Proofs.Ytegoncendpboiaa
