/-
  No cell of these rows narrows 'for every input' (looked for: loops, veiled, ifaces, maps, wideKeys, modest, calm, conditions, laid).
  DERIVED. THE GIVEN ROWS OF THIS SEAT. 13 by the template 'for every input the law returns true; each argument reads behind the call as it read before'; 0 by the template 'total and deterministic' (their statements: YtilimbdpdpfalaaTotals.lean).
  GIVEN WITH THE SEED: the statements are not yours to turn. If you find one false, say at which input.
  Laid BY PROGRAM, IN A SANDBOX (cutbox-rows.mjs): the forced cells as the released guide's own fill.sh prints them over the translation ee874abfd28bbd38… (all of the seat's roots in one cut). By AI agents, Wed Nov 11 2026. No macro, syntax, notation, axiom, sorry.
-/
import Derived.Test.YtilimbdpdpfalaaChecked
import GoSem.Claim
import GoSem.ClaimJoined
import GoSem.ClaimMapViews
import Derived.JoinedTies
import Derived.KernelRfl
namespace Go.Proofs.Ytilimbdpdpfalaa
/- THE CELL 'sum', in the pinned program and in every row, IS THE sha256 OF THE DUMP (.gsa) THAT YtilimbdpdpfalaaProg.lean LOADS. Nothing in Lean hashes anything: it is a label: what it is worth is what the hold of that sum in a sandbox is worth. -/
noncomputable def Try.pinned : Pinned := { name := "ytilimbdpdpfalaa", sum := "ee874abfd28bbd389c821732e2e9ee77e256102ff1eed9067579d070b4d2e0ab", checked := Try.checked }
namespace Rows
def none {H : Type} : Left H := { results := [], args := [] }

/-- 'laws.FnExactExprOk': WHATEVER THE INPUT: true; the input reads as it did. -/
def fnExactExprOkSpec : ChangeSpec := { name := "fnExactExprOk", fn := fun _ => fun
  | [d] => { results := [.lit (.bool true)], args := [d] }
  | _ => none }
def fnExactExprOkRow : OpenClaim := { program := "ytilimbdpdpfalaa", sum := "ee874abfd28bbd389c821732e2e9ee77e256102ff1eed9067579d070b4d2e0ab", func := "loop.example/wholetensors/laws.FnExactExprOk", spec := "fnExactExprOk", apart := false }
def FnExactExprOkSaid : Prop := fnExactExprOkRow.holds Try.pinned (OpenSpec.ofChange fnExactExprOkSpec)

/-- ITS FALSE NEIGHBOUR: 'it returns false'. Refute it at one input. -/
def fnExactExprOkWrong : ChangeSpec := { name := "fnExactExprOk", fn := fun _ => fun
  | [d] => { results := [.lit (.bool false)], args := [d] }
  | _ => none }
def FnExactExprOkWrongFalsely : Prop := fnExactExprOkRow.holds Try.pinned (OpenSpec.ofChange fnExactExprOkWrong)

/-- 'laws.FnExactShapesOf': WHATEVER THE INPUT: true; the input reads as it did. -/
def fnExactShapesOfSpec : ChangeSpec := { name := "fnExactShapesOf", fn := fun _ => fun
  | [d] => { results := [.lit (.bool true)], args := [d] }
  | _ => none }
def fnExactShapesOfRow : OpenClaim := { program := "ytilimbdpdpfalaa", sum := "ee874abfd28bbd389c821732e2e9ee77e256102ff1eed9067579d070b4d2e0ab", func := "loop.example/wholetensors/laws.FnExactShapesOf", spec := "fnExactShapesOf", apart := false }
def FnExactShapesOfSaid : Prop := fnExactShapesOfRow.holds Try.pinned (OpenSpec.ofChange fnExactShapesOfSpec)

/-- ITS FALSE NEIGHBOUR: 'it returns false'. Refute it at one input. -/
def fnExactShapesOfWrong : ChangeSpec := { name := "fnExactShapesOf", fn := fun _ => fun
  | [d] => { results := [.lit (.bool false)], args := [d] }
  | _ => none }
def FnExactShapesOfWrongFalsely : Prop := fnExactShapesOfRow.holds Try.pinned (OpenSpec.ofChange fnExactShapesOfWrong)

/-- 'laws.FnExactInputsOk': WHATEVER THE INPUT: true; the input reads as it did. -/
def fnExactInputsOkSpec : ChangeSpec := { name := "fnExactInputsOk", fn := fun _ => fun
  | [d1, d2] => { results := [.lit (.bool true)], args := [d1, d2] }
  | _ => none }
def fnExactInputsOkRow : OpenClaim := { program := "ytilimbdpdpfalaa", sum := "ee874abfd28bbd389c821732e2e9ee77e256102ff1eed9067579d070b4d2e0ab", func := "loop.example/wholetensors/laws.FnExactInputsOk", spec := "fnExactInputsOk", apart := false }
def FnExactInputsOkSaid : Prop := fnExactInputsOkRow.holds Try.pinned (OpenSpec.ofChange fnExactInputsOkSpec)

/-- ITS FALSE NEIGHBOUR: 'it returns false'. Refute it at one input. -/
def fnExactInputsOkWrong : ChangeSpec := { name := "fnExactInputsOk", fn := fun _ => fun
  | [d1, d2] => { results := [.lit (.bool false)], args := [d1, d2] }
  | _ => none }
def FnExactInputsOkWrongFalsely : Prop := fnExactInputsOkRow.holds Try.pinned (OpenSpec.ofChange fnExactInputsOkWrong)

/-- 'laws.FnExactUsesOf': WHATEVER THE INPUT: true; the input reads as it did. -/
def fnExactUsesOfSpec : ChangeSpec := { name := "fnExactUsesOf", fn := fun _ => fun
  | [d] => { results := [.lit (.bool true)], args := [d] }
  | _ => none }
def fnExactUsesOfRow : OpenClaim := { program := "ytilimbdpdpfalaa", sum := "ee874abfd28bbd389c821732e2e9ee77e256102ff1eed9067579d070b4d2e0ab", func := "loop.example/wholetensors/laws.FnExactUsesOf", spec := "fnExactUsesOf", apart := false }
def FnExactUsesOfSaid : Prop := fnExactUsesOfRow.holds Try.pinned (OpenSpec.ofChange fnExactUsesOfSpec)

/-- ITS FALSE NEIGHBOUR: 'it returns false'. Refute it at one input. -/
def fnExactUsesOfWrong : ChangeSpec := { name := "fnExactUsesOf", fn := fun _ => fun
  | [d] => { results := [.lit (.bool false)], args := [d] }
  | _ => none }
def FnExactUsesOfWrongFalsely : Prop := fnExactUsesOfRow.holds Try.pinned (OpenSpec.ofChange fnExactUsesOfWrong)

/-- 'laws.FnExactNeededOf': WHATEVER THE INPUT: true; the input reads as it did. -/
def fnExactNeededOfSpec : ChangeSpec := { name := "fnExactNeededOf", fn := fun _ => fun
  | [d] => { results := [.lit (.bool true)], args := [d] }
  | _ => none }
def fnExactNeededOfRow : OpenClaim := { program := "ytilimbdpdpfalaa", sum := "ee874abfd28bbd389c821732e2e9ee77e256102ff1eed9067579d070b4d2e0ab", func := "loop.example/wholetensors/laws.FnExactNeededOf", spec := "fnExactNeededOf", apart := false }
def FnExactNeededOfSaid : Prop := fnExactNeededOfRow.holds Try.pinned (OpenSpec.ofChange fnExactNeededOfSpec)

/-- ITS FALSE NEIGHBOUR: 'it returns false'. Refute it at one input. -/
def fnExactNeededOfWrong : ChangeSpec := { name := "fnExactNeededOf", fn := fun _ => fun
  | [d] => { results := [.lit (.bool false)], args := [d] }
  | _ => none }
def FnExactNeededOfWrongFalsely : Prop := fnExactNeededOfRow.holds Try.pinned (OpenSpec.ofChange fnExactNeededOfWrong)

/-- 'laws.FnExactSmoothOk': WHATEVER THE INPUT: true; the input reads as it did. -/
def fnExactSmoothOkSpec : ChangeSpec := { name := "fnExactSmoothOk", fn := fun _ => fun
  | [d] => { results := [.lit (.bool true)], args := [d] }
  | _ => none }
def fnExactSmoothOkRow : OpenClaim := { program := "ytilimbdpdpfalaa", sum := "ee874abfd28bbd389c821732e2e9ee77e256102ff1eed9067579d070b4d2e0ab", func := "loop.example/wholetensors/laws.FnExactSmoothOk", spec := "fnExactSmoothOk", apart := false }
def FnExactSmoothOkSaid : Prop := fnExactSmoothOkRow.holds Try.pinned (OpenSpec.ofChange fnExactSmoothOkSpec)

/-- ITS FALSE NEIGHBOUR: 'it returns false'. Refute it at one input. -/
def fnExactSmoothOkWrong : ChangeSpec := { name := "fnExactSmoothOk", fn := fun _ => fun
  | [d] => { results := [.lit (.bool false)], args := [d] }
  | _ => none }
def FnExactSmoothOkWrongFalsely : Prop := fnExactSmoothOkRow.holds Try.pinned (OpenSpec.ofChange fnExactSmoothOkWrong)

/-- 'laws.FnExactSumOk': WHATEVER THE INPUT: true; the input reads as it did. -/
def fnExactSumOkSpec : ChangeSpec := { name := "fnExactSumOk", fn := fun _ => fun
  | [d] => { results := [.lit (.bool true)], args := [d] }
  | _ => none }
def fnExactSumOkRow : OpenClaim := { program := "ytilimbdpdpfalaa", sum := "ee874abfd28bbd389c821732e2e9ee77e256102ff1eed9067579d070b4d2e0ab", func := "loop.example/wholetensors/laws.FnExactSumOk", spec := "fnExactSumOk", apart := false }
def FnExactSumOkSaid : Prop := fnExactSumOkRow.holds Try.pinned (OpenSpec.ofChange fnExactSumOkSpec)

/-- ITS FALSE NEIGHBOUR: 'it returns false'. Refute it at one input. -/
def fnExactSumOkWrong : ChangeSpec := { name := "fnExactSumOk", fn := fun _ => fun
  | [d] => { results := [.lit (.bool false)], args := [d] }
  | _ => none }
def FnExactSumOkWrongFalsely : Prop := fnExactSumOkRow.holds Try.pinned (OpenSpec.ofChange fnExactSumOkWrong)

/-- 'laws.FnExactFactorShape': WHATEVER THE INPUT: true; the input reads as it did. -/
def fnExactFactorShapeSpec : ChangeSpec := { name := "fnExactFactorShape", fn := fun _ => fun
  | [d1, d2] => { results := [.lit (.bool true)], args := [d1, d2] }
  | _ => none }
def fnExactFactorShapeRow : OpenClaim := { program := "ytilimbdpdpfalaa", sum := "ee874abfd28bbd389c821732e2e9ee77e256102ff1eed9067579d070b4d2e0ab", func := "loop.example/wholetensors/laws.FnExactFactorShape", spec := "fnExactFactorShape", apart := false }
def FnExactFactorShapeSaid : Prop := fnExactFactorShapeRow.holds Try.pinned (OpenSpec.ofChange fnExactFactorShapeSpec)

/-- ITS FALSE NEIGHBOUR: 'it returns false'. Refute it at one input. -/
def fnExactFactorShapeWrong : ChangeSpec := { name := "fnExactFactorShape", fn := fun _ => fun
  | [d1, d2] => { results := [.lit (.bool false)], args := [d1, d2] }
  | _ => none }
def FnExactFactorShapeWrongFalsely : Prop := fnExactFactorShapeRow.holds Try.pinned (OpenSpec.ofChange fnExactFactorShapeWrong)

/-- 'laws.FnExactSumValue': WHATEVER THE INPUT: true; the input reads as it did. -/
def fnExactSumValueSpec : ChangeSpec := { name := "fnExactSumValue", fn := fun _ => fun
  | [d1, d2] => { results := [.lit (.bool true)], args := [d1, d2] }
  | _ => none }
def fnExactSumValueRow : OpenClaim := { program := "ytilimbdpdpfalaa", sum := "ee874abfd28bbd389c821732e2e9ee77e256102ff1eed9067579d070b4d2e0ab", func := "loop.example/wholetensors/laws.FnExactSumValue", spec := "fnExactSumValue", apart := false }
def FnExactSumValueSaid : Prop := fnExactSumValueRow.holds Try.pinned (OpenSpec.ofChange fnExactSumValueSpec)

/-- ITS FALSE NEIGHBOUR: 'it returns false'. Refute it at one input. -/
def fnExactSumValueWrong : ChangeSpec := { name := "fnExactSumValue", fn := fun _ => fun
  | [d1, d2] => { results := [.lit (.bool false)], args := [d1, d2] }
  | _ => none }
def FnExactSumValueWrongFalsely : Prop := fnExactSumValueRow.holds Try.pinned (OpenSpec.ofChange fnExactSumValueWrong)

/-- 'laws.FnExactSumCost': WHATEVER THE INPUT: true; the input reads as it did. -/
def fnExactSumCostSpec : ChangeSpec := { name := "fnExactSumCost", fn := fun _ => fun
  | [d] => { results := [.lit (.bool true)], args := [d] }
  | _ => none }
def fnExactSumCostRow : OpenClaim := { program := "ytilimbdpdpfalaa", sum := "ee874abfd28bbd389c821732e2e9ee77e256102ff1eed9067579d070b4d2e0ab", func := "loop.example/wholetensors/laws.FnExactSumCost", spec := "fnExactSumCost", apart := false }
def FnExactSumCostSaid : Prop := fnExactSumCostRow.holds Try.pinned (OpenSpec.ofChange fnExactSumCostSpec)

/-- ITS FALSE NEIGHBOUR: 'it returns false'. Refute it at one input. -/
def fnExactSumCostWrong : ChangeSpec := { name := "fnExactSumCost", fn := fun _ => fun
  | [d] => { results := [.lit (.bool false)], args := [d] }
  | _ => none }
def FnExactSumCostWrongFalsely : Prop := fnExactSumCostRow.holds Try.pinned (OpenSpec.ofChange fnExactSumCostWrong)

/-- 'laws.FnExactWithOrder': WHATEVER THE INPUT: true; the input reads as it did. -/
def fnExactWithOrderSpec : ChangeSpec := { name := "fnExactWithOrder", fn := fun _ => fun
  | [d1, d2] => { results := [.lit (.bool true)], args := [d1, d2] }
  | _ => none }
def fnExactWithOrderRow : OpenClaim := { program := "ytilimbdpdpfalaa", sum := "ee874abfd28bbd389c821732e2e9ee77e256102ff1eed9067579d070b4d2e0ab", func := "loop.example/wholetensors/laws.FnExactWithOrder", spec := "fnExactWithOrder", apart := false }
def FnExactWithOrderSaid : Prop := fnExactWithOrderRow.holds Try.pinned (OpenSpec.ofChange fnExactWithOrderSpec)

/-- ITS FALSE NEIGHBOUR: 'it returns false'. Refute it at one input. -/
def fnExactWithOrderWrong : ChangeSpec := { name := "fnExactWithOrder", fn := fun _ => fun
  | [d1, d2] => { results := [.lit (.bool false)], args := [d1, d2] }
  | _ => none }
def FnExactWithOrderWrongFalsely : Prop := fnExactWithOrderRow.holds Try.pinned (OpenSpec.ofChange fnExactWithOrderWrong)

/-- 'laws.FnNeededOf': WHATEVER THE INPUT: true; the input reads as it did. -/
def fnNeededOfSpec : ChangeSpec := { name := "fnNeededOf", fn := fun _ => fun
  | [d] => { results := [.lit (.bool true)], args := [d] }
  | _ => none }
def fnNeededOfRow : OpenClaim := { program := "ytilimbdpdpfalaa", sum := "ee874abfd28bbd389c821732e2e9ee77e256102ff1eed9067579d070b4d2e0ab", func := "loop.example/wholetensors/laws.FnNeededOf", spec := "fnNeededOf", apart := false }
def FnNeededOfSaid : Prop := fnNeededOfRow.holds Try.pinned (OpenSpec.ofChange fnNeededOfSpec)

/-- ITS FALSE NEIGHBOUR: 'it returns false'. Refute it at one input. -/
def fnNeededOfWrong : ChangeSpec := { name := "fnNeededOf", fn := fun _ => fun
  | [d] => { results := [.lit (.bool false)], args := [d] }
  | _ => none }
def FnNeededOfWrongFalsely : Prop := fnNeededOfRow.holds Try.pinned (OpenSpec.ofChange fnNeededOfWrong)

/-- 'laws.FnSumAxes': WHATEVER THE INPUT: true; the input reads as it did. -/
def fnSumAxesSpec : ChangeSpec := { name := "fnSumAxes", fn := fun _ => fun
  | [d] => { results := [.lit (.bool true)], args := [d] }
  | _ => none }
def fnSumAxesRow : OpenClaim := { program := "ytilimbdpdpfalaa", sum := "ee874abfd28bbd389c821732e2e9ee77e256102ff1eed9067579d070b4d2e0ab", func := "loop.example/wholetensors/laws.FnSumAxes", spec := "fnSumAxes", apart := false }
def FnSumAxesSaid : Prop := fnSumAxesRow.holds Try.pinned (OpenSpec.ofChange fnSumAxesSpec)

/-- ITS FALSE NEIGHBOUR: 'it returns false'. Refute it at one input. -/
def fnSumAxesWrong : ChangeSpec := { name := "fnSumAxes", fn := fun _ => fun
  | [d] => { results := [.lit (.bool false)], args := [d] }
  | _ => none }
def FnSumAxesWrongFalsely : Prop := fnSumAxesRow.holds Try.pinned (OpenSpec.ofChange fnSumAxesWrong)

/- THE SECOND FORM. 'bulk': how many values and letters a reading holds, each counted each time it is reached (what is shared counts as often as it is met; a slice's spare places count too). A statement '..UptoSaid' is the law's where the arguments, and the package variables that the reading takes, are together of bulk at most 1048576: NARROWER than '..Said'. Prove '..Said' where nothing that the law and all that it calls make is longer than what came in: it says more and counts as full. Else prove '..UptoSaid'. A law counts once. -/
mutual
def uptoBulk {H : Type} : DataW H → Nat
  | .lit (.string bytes) => bytes.length + 1
  | .lit _ => 1
  | .nil => 1
  | .ptr d => uptoBulk d + 1
  | .slice elems spare => uptoBulkAll elems + uptoBulkAll spare + 1
  | .agg parts => uptoBulkAll parts + 1
  | .iface _ d => uptoBulk d + 1
  | .map entries => uptoBulkEntries entries + 1
  | .held _ => 1
def uptoBulkAll {H : Type} : List (DataW H) → Nat
  | [] => 0
  | d :: r => uptoBulk d + uptoBulkAll r
def uptoBulkEntries {H : Type} : List (Lit × DataW H) → Nat
  | [] => 0
  | x :: r => uptoBulkEntry x + uptoBulkEntries r
def uptoBulkEntry {H : Type} : Lit × DataW H → Nat
  | (.string bytes, d) => bytes.length + uptoBulk d + 1
  | (_, d) => uptoBulk d + 1
 end
def uptoSmall : (H : Type) → List (DataW H) → Bool := fun _ ds => decide (uptoBulkAll ds ≤ 1048576)
def OpenSpec.upto (s : _root_.Go.ChangeSpec) : _root_.Go.OpenSpec := { _root_.Go.OpenSpec.ofChange s with cond := some uptoSmall }

/-- 'laws.FnExactExprOk', WHERE WHAT IT READS IS OF BULK AT MOST 1048576: true; the input reads as it did. -/
def fnExactExprOkUptoRow : OpenClaim := { program := "ytilimbdpdpfalaa", sum := "ee874abfd28bbd389c821732e2e9ee77e256102ff1eed9067579d070b4d2e0ab", func := "loop.example/wholetensors/laws.FnExactExprOk", spec := "fnExactExprOk", apart := false, narrowed := true }
def FnExactExprOkUptoSaid : Prop := fnExactExprOkUptoRow.holds Try.pinned (OpenSpec.upto fnExactExprOkSpec)

/-- 'laws.FnExactShapesOf', WHERE WHAT IT READS IS OF BULK AT MOST 1048576: true; the input reads as it did. -/
def fnExactShapesOfUptoRow : OpenClaim := { program := "ytilimbdpdpfalaa", sum := "ee874abfd28bbd389c821732e2e9ee77e256102ff1eed9067579d070b4d2e0ab", func := "loop.example/wholetensors/laws.FnExactShapesOf", spec := "fnExactShapesOf", apart := false, narrowed := true }
def FnExactShapesOfUptoSaid : Prop := fnExactShapesOfUptoRow.holds Try.pinned (OpenSpec.upto fnExactShapesOfSpec)

/-- 'laws.FnExactInputsOk', WHERE WHAT IT READS IS OF BULK AT MOST 1048576: true; the input reads as it did. -/
def fnExactInputsOkUptoRow : OpenClaim := { program := "ytilimbdpdpfalaa", sum := "ee874abfd28bbd389c821732e2e9ee77e256102ff1eed9067579d070b4d2e0ab", func := "loop.example/wholetensors/laws.FnExactInputsOk", spec := "fnExactInputsOk", apart := false, narrowed := true }
def FnExactInputsOkUptoSaid : Prop := fnExactInputsOkUptoRow.holds Try.pinned (OpenSpec.upto fnExactInputsOkSpec)

/-- 'laws.FnExactUsesOf', WHERE WHAT IT READS IS OF BULK AT MOST 1048576: true; the input reads as it did. -/
def fnExactUsesOfUptoRow : OpenClaim := { program := "ytilimbdpdpfalaa", sum := "ee874abfd28bbd389c821732e2e9ee77e256102ff1eed9067579d070b4d2e0ab", func := "loop.example/wholetensors/laws.FnExactUsesOf", spec := "fnExactUsesOf", apart := false, narrowed := true }
def FnExactUsesOfUptoSaid : Prop := fnExactUsesOfUptoRow.holds Try.pinned (OpenSpec.upto fnExactUsesOfSpec)

/-- 'laws.FnExactNeededOf', WHERE WHAT IT READS IS OF BULK AT MOST 1048576: true; the input reads as it did. -/
def fnExactNeededOfUptoRow : OpenClaim := { program := "ytilimbdpdpfalaa", sum := "ee874abfd28bbd389c821732e2e9ee77e256102ff1eed9067579d070b4d2e0ab", func := "loop.example/wholetensors/laws.FnExactNeededOf", spec := "fnExactNeededOf", apart := false, narrowed := true }
def FnExactNeededOfUptoSaid : Prop := fnExactNeededOfUptoRow.holds Try.pinned (OpenSpec.upto fnExactNeededOfSpec)

/-- 'laws.FnExactSmoothOk', WHERE WHAT IT READS IS OF BULK AT MOST 1048576: true; the input reads as it did. -/
def fnExactSmoothOkUptoRow : OpenClaim := { program := "ytilimbdpdpfalaa", sum := "ee874abfd28bbd389c821732e2e9ee77e256102ff1eed9067579d070b4d2e0ab", func := "loop.example/wholetensors/laws.FnExactSmoothOk", spec := "fnExactSmoothOk", apart := false, narrowed := true }
def FnExactSmoothOkUptoSaid : Prop := fnExactSmoothOkUptoRow.holds Try.pinned (OpenSpec.upto fnExactSmoothOkSpec)

/-- 'laws.FnExactSumOk', WHERE WHAT IT READS IS OF BULK AT MOST 1048576: true; the input reads as it did. -/
def fnExactSumOkUptoRow : OpenClaim := { program := "ytilimbdpdpfalaa", sum := "ee874abfd28bbd389c821732e2e9ee77e256102ff1eed9067579d070b4d2e0ab", func := "loop.example/wholetensors/laws.FnExactSumOk", spec := "fnExactSumOk", apart := false, narrowed := true }
def FnExactSumOkUptoSaid : Prop := fnExactSumOkUptoRow.holds Try.pinned (OpenSpec.upto fnExactSumOkSpec)

/-- 'laws.FnExactFactorShape', WHERE WHAT IT READS IS OF BULK AT MOST 1048576: true; the input reads as it did. -/
def fnExactFactorShapeUptoRow : OpenClaim := { program := "ytilimbdpdpfalaa", sum := "ee874abfd28bbd389c821732e2e9ee77e256102ff1eed9067579d070b4d2e0ab", func := "loop.example/wholetensors/laws.FnExactFactorShape", spec := "fnExactFactorShape", apart := false, narrowed := true }
def FnExactFactorShapeUptoSaid : Prop := fnExactFactorShapeUptoRow.holds Try.pinned (OpenSpec.upto fnExactFactorShapeSpec)

/-- 'laws.FnExactSumValue', WHERE WHAT IT READS IS OF BULK AT MOST 1048576: true; the input reads as it did. -/
def fnExactSumValueUptoRow : OpenClaim := { program := "ytilimbdpdpfalaa", sum := "ee874abfd28bbd389c821732e2e9ee77e256102ff1eed9067579d070b4d2e0ab", func := "loop.example/wholetensors/laws.FnExactSumValue", spec := "fnExactSumValue", apart := false, narrowed := true }
def FnExactSumValueUptoSaid : Prop := fnExactSumValueUptoRow.holds Try.pinned (OpenSpec.upto fnExactSumValueSpec)

/-- 'laws.FnExactSumCost', WHERE WHAT IT READS IS OF BULK AT MOST 1048576: true; the input reads as it did. -/
def fnExactSumCostUptoRow : OpenClaim := { program := "ytilimbdpdpfalaa", sum := "ee874abfd28bbd389c821732e2e9ee77e256102ff1eed9067579d070b4d2e0ab", func := "loop.example/wholetensors/laws.FnExactSumCost", spec := "fnExactSumCost", apart := false, narrowed := true }
def FnExactSumCostUptoSaid : Prop := fnExactSumCostUptoRow.holds Try.pinned (OpenSpec.upto fnExactSumCostSpec)

/-- 'laws.FnExactWithOrder', WHERE WHAT IT READS IS OF BULK AT MOST 1048576: true; the input reads as it did. -/
def fnExactWithOrderUptoRow : OpenClaim := { program := "ytilimbdpdpfalaa", sum := "ee874abfd28bbd389c821732e2e9ee77e256102ff1eed9067579d070b4d2e0ab", func := "loop.example/wholetensors/laws.FnExactWithOrder", spec := "fnExactWithOrder", apart := false, narrowed := true }
def FnExactWithOrderUptoSaid : Prop := fnExactWithOrderUptoRow.holds Try.pinned (OpenSpec.upto fnExactWithOrderSpec)

/-- 'laws.FnNeededOf', WHERE WHAT IT READS IS OF BULK AT MOST 1048576: true; the input reads as it did. -/
def fnNeededOfUptoRow : OpenClaim := { program := "ytilimbdpdpfalaa", sum := "ee874abfd28bbd389c821732e2e9ee77e256102ff1eed9067579d070b4d2e0ab", func := "loop.example/wholetensors/laws.FnNeededOf", spec := "fnNeededOf", apart := false, narrowed := true }
def FnNeededOfUptoSaid : Prop := fnNeededOfUptoRow.holds Try.pinned (OpenSpec.upto fnNeededOfSpec)

/-- 'laws.FnSumAxes', WHERE WHAT IT READS IS OF BULK AT MOST 1048576: true; the input reads as it did. -/
def fnSumAxesUptoRow : OpenClaim := { program := "ytilimbdpdpfalaa", sum := "ee874abfd28bbd389c821732e2e9ee77e256102ff1eed9067579d070b4d2e0ab", func := "loop.example/wholetensors/laws.FnSumAxes", spec := "fnSumAxes", apart := false, narrowed := true }
def FnSumAxesUptoSaid : Prop := fnSumAxesUptoRow.holds Try.pinned (OpenSpec.upto fnSumAxesSpec)

end Rows
end Go.Proofs.Ytilimbdpdpfalaa
