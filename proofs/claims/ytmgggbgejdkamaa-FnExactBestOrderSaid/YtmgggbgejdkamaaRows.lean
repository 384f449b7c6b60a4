/-
  No cell of these rows narrows 'for every input' (looked for: loops, veiled, ifaces, maps, wideKeys, modest, calm, conditions, laid).
  DERIVED. THE GIVEN ROWS OF THIS SEAT. 12 by the template 'for every input the law returns true; each argument reads behind the call as it read before'; 0 by the template 'total and deterministic' (their statements: YtmgggbgejdkamaaTotals.lean).
  GIVEN WITH THE SEED: the statements are not yours to turn. If you find one false, say at which input.
  Laid BY PROGRAM, IN A SANDBOX (cutbox-rows.mjs): the forced cells as the released guide's own fill.sh prints them over the translation 361b4c3b9c46fd54… (all of the seat's roots in one cut). By AI agents, Wed Nov 11 2026. No macro, syntax, notation, axiom, sorry.
-/
import Derived.Test.YtmgggbgejdkamaaChecked
import GoSem.Claim
import GoSem.ClaimJoined
import GoSem.ClaimMapViews
import Derived.JoinedTies
import Derived.KernelRfl
namespace Go.Proofs.Ytmgggbgejdkamaa
/- THE CELL 'sum', in the pinned program and in every row, IS THE sha256 OF THE DUMP (.gsa) THAT YtmgggbgejdkamaaProg.lean LOADS. Nothing in Lean hashes anything: it is a label: what it is worth is what the hold of that sum in a sandbox is worth. -/
noncomputable def Try.pinned : Pinned := { name := "ytmgggbgejdkamaa", sum := "361b4c3b9c46fd54acef181d02165dd6d824eafe5fbd3b4a8d7c961aeb507ad3", checked := Try.checked }
namespace Rows
def none {H : Type} : Left H := { results := [], args := [] }

/-- 'laws.FnExactOrderOk': WHATEVER THE INPUT: true; the input reads as it did. -/
def fnExactOrderOkSpec : ChangeSpec := { name := "fnExactOrderOk", fn := fun _ => fun
  | [d1, d2] => { results := [.lit (.bool true)], args := [d1, d2] }
  | _ => none }
def fnExactOrderOkRow : OpenClaim := { program := "ytmgggbgejdkamaa", sum := "361b4c3b9c46fd54acef181d02165dd6d824eafe5fbd3b4a8d7c961aeb507ad3", func := "loop.example/wholetensors/laws.FnExactOrderOk", spec := "fnExactOrderOk", apart := false }
def FnExactOrderOkSaid : Prop := fnExactOrderOkRow.holds Try.pinned (OpenSpec.ofChange fnExactOrderOkSpec)

/-- ITS FALSE NEIGHBOUR: 'it returns false'. Refute it at one input. -/
def fnExactOrderOkWrong : ChangeSpec := { name := "fnExactOrderOk", fn := fun _ => fun
  | [d1, d2] => { results := [.lit (.bool false)], args := [d1, d2] }
  | _ => none }
def FnExactOrderOkWrongFalsely : Prop := fnExactOrderOkRow.holds Try.pinned (OpenSpec.ofChange fnExactOrderOkWrong)

/-- 'laws.FnExactMergeOf': WHATEVER THE INPUT: true; the input reads as it did. -/
def fnExactMergeOfSpec : ChangeSpec := { name := "fnExactMergeOf", fn := fun _ => fun
  | [d1, d2, d3] => { results := [.lit (.bool true)], args := [d1, d2, d3] }
  | _ => none }
def fnExactMergeOfRow : OpenClaim := { program := "ytmgggbgejdkamaa", sum := "361b4c3b9c46fd54acef181d02165dd6d824eafe5fbd3b4a8d7c961aeb507ad3", func := "loop.example/wholetensors/laws.FnExactMergeOf", spec := "fnExactMergeOf", apart := false }
def FnExactMergeOfSaid : Prop := fnExactMergeOfRow.holds Try.pinned (OpenSpec.ofChange fnExactMergeOfSpec)

/-- ITS FALSE NEIGHBOUR: 'it returns false'. Refute it at one input. -/
def fnExactMergeOfWrong : ChangeSpec := { name := "fnExactMergeOf", fn := fun _ => fun
  | [d1, d2, d3] => { results := [.lit (.bool false)], args := [d1, d2, d3] }
  | _ => none }
def FnExactMergeOfWrongFalsely : Prop := fnExactMergeOfRow.holds Try.pinned (OpenSpec.ofChange fnExactMergeOfWrong)

/-- 'laws.FnExactValueBy': WHATEVER THE INPUT: true; the input reads as it did. -/
def fnExactValueBySpec : ChangeSpec := { name := "fnExactValueBy", fn := fun _ => fun
  | [d1, d2, d3] => { results := [.lit (.bool true)], args := [d1, d2, d3] }
  | _ => none }
def fnExactValueByRow : OpenClaim := { program := "ytmgggbgejdkamaa", sum := "361b4c3b9c46fd54acef181d02165dd6d824eafe5fbd3b4a8d7c961aeb507ad3", func := "loop.example/wholetensors/laws.FnExactValueBy", spec := "fnExactValueBy", apart := false }
def FnExactValueBySaid : Prop := fnExactValueByRow.holds Try.pinned (OpenSpec.ofChange fnExactValueBySpec)

/-- ITS FALSE NEIGHBOUR: 'it returns false'. Refute it at one input. -/
def fnExactValueByWrong : ChangeSpec := { name := "fnExactValueBy", fn := fun _ => fun
  | [d1, d2, d3] => { results := [.lit (.bool false)], args := [d1, d2, d3] }
  | _ => none }
def FnExactValueByWrongFalsely : Prop := fnExactValueByRow.holds Try.pinned (OpenSpec.ofChange fnExactValueByWrong)

/-- 'laws.FnExactOrderCost': WHATEVER THE INPUT: true; the input reads as it did. -/
def fnExactOrderCostSpec : ChangeSpec := { name := "fnExactOrderCost", fn := fun _ => fun
  | [d1, d2] => { results := [.lit (.bool true)], args := [d1, d2] }
  | _ => none }
def fnExactOrderCostRow : OpenClaim := { program := "ytmgggbgejdkamaa", sum := "361b4c3b9c46fd54acef181d02165dd6d824eafe5fbd3b4a8d7c961aeb507ad3", func := "loop.example/wholetensors/laws.FnExactOrderCost", spec := "fnExactOrderCost", apart := false }
def FnExactOrderCostSaid : Prop := fnExactOrderCostRow.holds Try.pinned (OpenSpec.ofChange fnExactOrderCostSpec)

/-- ITS FALSE NEIGHBOUR: 'it returns false'. Refute it at one input. -/
def fnExactOrderCostWrong : ChangeSpec := { name := "fnExactOrderCost", fn := fun _ => fun
  | [d1, d2] => { results := [.lit (.bool false)], args := [d1, d2] }
  | _ => none }
def FnExactOrderCostWrongFalsely : Prop := fnExactOrderCostRow.holds Try.pinned (OpenSpec.ofChange fnExactOrderCostWrong)

/-- 'laws.FnExactOrdersOf': WHATEVER THE INPUT: true; the input reads as it did. -/
def fnExactOrdersOfSpec : ChangeSpec := { name := "fnExactOrdersOf", fn := fun _ => fun
  | [d] => { results := [.lit (.bool true)], args := [d] }
  | _ => none }
def fnExactOrdersOfRow : OpenClaim := { program := "ytmgggbgejdkamaa", sum := "361b4c3b9c46fd54acef181d02165dd6d824eafe5fbd3b4a8d7c961aeb507ad3", func := "loop.example/wholetensors/laws.FnExactOrdersOf", spec := "fnExactOrdersOf", recurses := true, apart := false }
def FnExactOrdersOfSaid : Prop := fnExactOrdersOfRow.holds Try.pinned (OpenSpec.ofChange fnExactOrdersOfSpec)

/-- ITS FALSE NEIGHBOUR: 'it returns false'. Refute it at one input. -/
def fnExactOrdersOfWrong : ChangeSpec := { name := "fnExactOrdersOf", fn := fun _ => fun
  | [d] => { results := [.lit (.bool false)], args := [d] }
  | _ => none }
def FnExactOrdersOfWrongFalsely : Prop := fnExactOrdersOfRow.holds Try.pinned (OpenSpec.ofChange fnExactOrdersOfWrong)

/-- 'laws.FnExactBestOrder': WHATEVER THE INPUT: true; the input reads as it did. -/
def fnExactBestOrderSpec : ChangeSpec := { name := "fnExactBestOrder", fn := fun _ => fun
  | [d] => { results := [.lit (.bool true)], args := [d] }
  | _ => none }
def fnExactBestOrderRow : OpenClaim := { program := "ytmgggbgejdkamaa", sum := "361b4c3b9c46fd54acef181d02165dd6d824eafe5fbd3b4a8d7c961aeb507ad3", func := "loop.example/wholetensors/laws.FnExactBestOrder", spec := "fnExactBestOrder", recurses := true, apart := false }
def FnExactBestOrderSaid : Prop := fnExactBestOrderRow.holds Try.pinned (OpenSpec.ofChange fnExactBestOrderSpec)

/-- ITS FALSE NEIGHBOUR: 'it returns false'. Refute it at one input. -/
def fnExactBestOrderWrong : ChangeSpec := { name := "fnExactBestOrder", fn := fun _ => fun
  | [d] => { results := [.lit (.bool false)], args := [d] }
  | _ => none }
def FnExactBestOrderWrongFalsely : Prop := fnExactBestOrderRow.holds Try.pinned (OpenSpec.ofChange fnExactBestOrderWrong)

/-- 'laws.FnExactGreedyOrder': WHATEVER THE INPUT: true; the input reads as it did. -/
def fnExactGreedyOrderSpec : ChangeSpec := { name := "fnExactGreedyOrder", fn := fun _ => fun
  | [d] => { results := [.lit (.bool true)], args := [d] }
  | _ => none }
def fnExactGreedyOrderRow : OpenClaim := { program := "ytmgggbgejdkamaa", sum := "361b4c3b9c46fd54acef181d02165dd6d824eafe5fbd3b4a8d7c961aeb507ad3", func := "loop.example/wholetensors/laws.FnExactGreedyOrder", spec := "fnExactGreedyOrder", apart := false }
def FnExactGreedyOrderSaid : Prop := fnExactGreedyOrderRow.holds Try.pinned (OpenSpec.ofChange fnExactGreedyOrderSpec)

/-- ITS FALSE NEIGHBOUR: 'it returns false'. Refute it at one input. -/
def fnExactGreedyOrderWrong : ChangeSpec := { name := "fnExactGreedyOrder", fn := fun _ => fun
  | [d] => { results := [.lit (.bool false)], args := [d] }
  | _ => none }
def FnExactGreedyOrderWrongFalsely : Prop := fnExactGreedyOrderRow.holds Try.pinned (OpenSpec.ofChange fnExactGreedyOrderWrong)

/-- 'laws.FnExactSumOk': WHATEVER THE INPUT: true; the input reads as it did. -/
def fnExactSumOkSpec : ChangeSpec := { name := "fnExactSumOk", fn := fun _ => fun
  | [d] => { results := [.lit (.bool true)], args := [d] }
  | _ => none }
def fnExactSumOkRow : OpenClaim := { program := "ytmgggbgejdkamaa", sum := "361b4c3b9c46fd54acef181d02165dd6d824eafe5fbd3b4a8d7c961aeb507ad3", func := "loop.example/wholetensors/laws.FnExactSumOk", spec := "fnExactSumOk", apart := false }
def FnExactSumOkSaid : Prop := fnExactSumOkRow.holds Try.pinned (OpenSpec.ofChange fnExactSumOkSpec)

/-- ITS FALSE NEIGHBOUR: 'it returns false'. Refute it at one input. -/
def fnExactSumOkWrong : ChangeSpec := { name := "fnExactSumOk", fn := fun _ => fun
  | [d] => { results := [.lit (.bool false)], args := [d] }
  | _ => none }
def FnExactSumOkWrongFalsely : Prop := fnExactSumOkRow.holds Try.pinned (OpenSpec.ofChange fnExactSumOkWrong)

/-- 'laws.FnExactSumCost': WHATEVER THE INPUT: true; the input reads as it did. -/
def fnExactSumCostSpec : ChangeSpec := { name := "fnExactSumCost", fn := fun _ => fun
  | [d] => { results := [.lit (.bool true)], args := [d] }
  | _ => none }
def fnExactSumCostRow : OpenClaim := { program := "ytmgggbgejdkamaa", sum := "361b4c3b9c46fd54acef181d02165dd6d824eafe5fbd3b4a8d7c961aeb507ad3", func := "loop.example/wholetensors/laws.FnExactSumCost", spec := "fnExactSumCost", apart := false }
def FnExactSumCostSaid : Prop := fnExactSumCostRow.holds Try.pinned (OpenSpec.ofChange fnExactSumCostSpec)

/-- ITS FALSE NEIGHBOUR: 'it returns false'. Refute it at one input. -/
def fnExactSumCostWrong : ChangeSpec := { name := "fnExactSumCost", fn := fun _ => fun
  | [d] => { results := [.lit (.bool false)], args := [d] }
  | _ => none }
def FnExactSumCostWrongFalsely : Prop := fnExactSumCostRow.holds Try.pinned (OpenSpec.ofChange fnExactSumCostWrong)

/-- 'laws.FnExactFactorShape': WHATEVER THE INPUT: true; the input reads as it did. -/
def fnExactFactorShapeSpec : ChangeSpec := { name := "fnExactFactorShape", fn := fun _ => fun
  | [d1, d2] => { results := [.lit (.bool true)], args := [d1, d2] }
  | _ => none }
def fnExactFactorShapeRow : OpenClaim := { program := "ytmgggbgejdkamaa", sum := "361b4c3b9c46fd54acef181d02165dd6d824eafe5fbd3b4a8d7c961aeb507ad3", func := "loop.example/wholetensors/laws.FnExactFactorShape", spec := "fnExactFactorShape", apart := false }
def FnExactFactorShapeSaid : Prop := fnExactFactorShapeRow.holds Try.pinned (OpenSpec.ofChange fnExactFactorShapeSpec)

/-- ITS FALSE NEIGHBOUR: 'it returns false'. Refute it at one input. -/
def fnExactFactorShapeWrong : ChangeSpec := { name := "fnExactFactorShape", fn := fun _ => fun
  | [d1, d2] => { results := [.lit (.bool false)], args := [d1, d2] }
  | _ => none }
def FnExactFactorShapeWrongFalsely : Prop := fnExactFactorShapeRow.holds Try.pinned (OpenSpec.ofChange fnExactFactorShapeWrong)

/-- 'laws.FnExactWithOrder': WHATEVER THE INPUT: true; the input reads as it did. -/
def fnExactWithOrderSpec : ChangeSpec := { name := "fnExactWithOrder", fn := fun _ => fun
  | [d1, d2] => { results := [.lit (.bool true)], args := [d1, d2] }
  | _ => none }
def fnExactWithOrderRow : OpenClaim := { program := "ytmgggbgejdkamaa", sum := "361b4c3b9c46fd54acef181d02165dd6d824eafe5fbd3b4a8d7c961aeb507ad3", func := "loop.example/wholetensors/laws.FnExactWithOrder", spec := "fnExactWithOrder", apart := false }
def FnExactWithOrderSaid : Prop := fnExactWithOrderRow.holds Try.pinned (OpenSpec.ofChange fnExactWithOrderSpec)

/-- ITS FALSE NEIGHBOUR: 'it returns false'. Refute it at one input. -/
def fnExactWithOrderWrong : ChangeSpec := { name := "fnExactWithOrder", fn := fun _ => fun
  | [d1, d2] => { results := [.lit (.bool false)], args := [d1, d2] }
  | _ => none }
def FnExactWithOrderWrongFalsely : Prop := fnExactWithOrderRow.holds Try.pinned (OpenSpec.ofChange fnExactWithOrderWrong)

/-- 'laws.FnExactSumValue': WHATEVER THE INPUT: true; the input reads as it did. -/
def fnExactSumValueSpec : ChangeSpec := { name := "fnExactSumValue", fn := fun _ => fun
  | [d1, d2] => { results := [.lit (.bool true)], args := [d1, d2] }
  | _ => none }
def fnExactSumValueRow : OpenClaim := { program := "ytmgggbgejdkamaa", sum := "361b4c3b9c46fd54acef181d02165dd6d824eafe5fbd3b4a8d7c961aeb507ad3", func := "loop.example/wholetensors/laws.FnExactSumValue", spec := "fnExactSumValue", apart := false }
def FnExactSumValueSaid : Prop := fnExactSumValueRow.holds Try.pinned (OpenSpec.ofChange fnExactSumValueSpec)

/-- ITS FALSE NEIGHBOUR: 'it returns false'. Refute it at one input. -/
def fnExactSumValueWrong : ChangeSpec := { name := "fnExactSumValue", fn := fun _ => fun
  | [d1, d2] => { results := [.lit (.bool false)], args := [d1, d2] }
  | _ => none }
def FnExactSumValueWrongFalsely : Prop := fnExactSumValueRow.holds Try.pinned (OpenSpec.ofChange fnExactSumValueWrong)

/- THE SECOND FORM. 'bulk': how many values and letters a reading holds, each counted each time it is reached (what is shared counts as often as it is met; a slice's spare places count too). A statement '..UptoSaid' is the law's where the arguments, and the package variables that the reading takes, are together of bulk at most 1048576: NARROWER than '..Said'. Prove '..Said' where nothing that the law and all that it calls make is longer than what came in: it says more and counts as full. Else prove '..UptoSaid'. A law counts once. -/
mutual
def uptoBulk {H : Type} : DataW H → Nat
  | .lit (.string bytes) => bytes.length + 1
  | .lit _ => 1
  | .nil => 1
  | .ptr d => uptoBulk d + 1
  | .slice elems spare => uptoBulkAll elems + uptoBulkAll spare + 1
  | .agg parts => uptoBulkAll parts + 1
  | .iface _ d => uptoBulk d + 1
  | .map entries => uptoBulkEntries entries + 1
  | .held _ => 1
def uptoBulkAll {H : Type} : List (DataW H) → Nat
  | [] => 0
  | d :: r => uptoBulk d + uptoBulkAll r
def uptoBulkEntries {H : Type} : List (Lit × DataW H) → Nat
  | [] => 0
  | x :: r => uptoBulkEntry x + uptoBulkEntries r
def uptoBulkEntry {H : Type} : Lit × DataW H → Nat
  | (.string bytes, d) => bytes.length + uptoBulk d + 1
  | (_, d) => uptoBulk d + 1
 end
def uptoSmall : (H : Type) → List (DataW H) → Bool := fun _ ds => decide (uptoBulkAll ds ≤ 1048576)
def OpenSpec.upto (s : _root_.Go.ChangeSpec) : _root_.Go.OpenSpec := { _root_.Go.OpenSpec.ofChange s with cond := some uptoSmall }

/-- 'laws.FnExactOrderOk', WHERE WHAT IT READS IS OF BULK AT MOST 1048576: true; the input reads as it did. -/
def fnExactOrderOkUptoRow : OpenClaim := { program := "ytmgggbgejdkamaa", sum := "361b4c3b9c46fd54acef181d02165dd6d824eafe5fbd3b4a8d7c961aeb507ad3", func := "loop.example/wholetensors/laws.FnExactOrderOk", spec := "fnExactOrderOk", apart := false, narrowed := true }
def FnExactOrderOkUptoSaid : Prop := fnExactOrderOkUptoRow.holds Try.pinned (OpenSpec.upto fnExactOrderOkSpec)

/-- 'laws.FnExactMergeOf', WHERE WHAT IT READS IS OF BULK AT MOST 1048576: true; the input reads as it did. -/
def fnExactMergeOfUptoRow : OpenClaim := { program := "ytmgggbgejdkamaa", sum := "361b4c3b9c46fd54acef181d02165dd6d824eafe5fbd3b4a8d7c961aeb507ad3", func := "loop.example/wholetensors/laws.FnExactMergeOf", spec := "fnExactMergeOf", apart := false, narrowed := true }
def FnExactMergeOfUptoSaid : Prop := fnExactMergeOfUptoRow.holds Try.pinned (OpenSpec.upto fnExactMergeOfSpec)

/-- 'laws.FnExactValueBy', WHERE WHAT IT READS IS OF BULK AT MOST 1048576: true; the input reads as it did. -/
def fnExactValueByUptoRow : OpenClaim := { program := "ytmgggbgejdkamaa", sum := "361b4c3b9c46fd54acef181d02165dd6d824eafe5fbd3b4a8d7c961aeb507ad3", func := "loop.example/wholetensors/laws.FnExactValueBy", spec := "fnExactValueBy", apart := false, narrowed := true }
def FnExactValueByUptoSaid : Prop := fnExactValueByUptoRow.holds Try.pinned (OpenSpec.upto fnExactValueBySpec)

/-- 'laws.FnExactOrderCost', WHERE WHAT IT READS IS OF BULK AT MOST 1048576: true; the input reads as it did. -/
def fnExactOrderCostUptoRow : OpenClaim := { program := "ytmgggbgejdkamaa", sum := "361b4c3b9c46fd54acef181d02165dd6d824eafe5fbd3b4a8d7c961aeb507ad3", func := "loop.example/wholetensors/laws.FnExactOrderCost", spec := "fnExactOrderCost", apart := false, narrowed := true }
def FnExactOrderCostUptoSaid : Prop := fnExactOrderCostUptoRow.holds Try.pinned (OpenSpec.upto fnExactOrderCostSpec)

/-- 'laws.FnExactOrdersOf', WHERE WHAT IT READS IS OF BULK AT MOST 1048576: true; the input reads as it did. -/
def fnExactOrdersOfUptoRow : OpenClaim := { program := "ytmgggbgejdkamaa", sum := "361b4c3b9c46fd54acef181d02165dd6d824eafe5fbd3b4a8d7c961aeb507ad3", func := "loop.example/wholetensors/laws.FnExactOrdersOf", spec := "fnExactOrdersOf", recurses := true, apart := false, narrowed := true }
def FnExactOrdersOfUptoSaid : Prop := fnExactOrdersOfUptoRow.holds Try.pinned (OpenSpec.upto fnExactOrdersOfSpec)

/-- 'laws.FnExactBestOrder', WHERE WHAT IT READS IS OF BULK AT MOST 1048576: true; the input reads as it did. -/
def fnExactBestOrderUptoRow : OpenClaim := { program := "ytmgggbgejdkamaa", sum := "361b4c3b9c46fd54acef181d02165dd6d824eafe5fbd3b4a8d7c961aeb507ad3", func := "loop.example/wholetensors/laws.FnExactBestOrder", spec := "fnExactBestOrder", recurses := true, apart := false, narrowed := true }
def FnExactBestOrderUptoSaid : Prop := fnExactBestOrderUptoRow.holds Try.pinned (OpenSpec.upto fnExactBestOrderSpec)

/-- 'laws.FnExactGreedyOrder', WHERE WHAT IT READS IS OF BULK AT MOST 1048576: true; the input reads as it did. -/
def fnExactGreedyOrderUptoRow : OpenClaim := { program := "ytmgggbgejdkamaa", sum := "361b4c3b9c46fd54acef181d02165dd6d824eafe5fbd3b4a8d7c961aeb507ad3", func := "loop.example/wholetensors/laws.FnExactGreedyOrder", spec := "fnExactGreedyOrder", apart := false, narrowed := true }
def FnExactGreedyOrderUptoSaid : Prop := fnExactGreedyOrderUptoRow.holds Try.pinned (OpenSpec.upto fnExactGreedyOrderSpec)

/-- 'laws.FnExactSumOk', WHERE WHAT IT READS IS OF BULK AT MOST 1048576: true; the input reads as it did. -/
def fnExactSumOkUptoRow : OpenClaim := { program := "ytmgggbgejdkamaa", sum := "361b4c3b9c46fd54acef181d02165dd6d824eafe5fbd3b4a8d7c961aeb507ad3", func := "loop.example/wholetensors/laws.FnExactSumOk", spec := "fnExactSumOk", apart := false, narrowed := true }
def FnExactSumOkUptoSaid : Prop := fnExactSumOkUptoRow.holds Try.pinned (OpenSpec.upto fnExactSumOkSpec)

/-- 'laws.FnExactSumCost', WHERE WHAT IT READS IS OF BULK AT MOST 1048576: true; the input reads as it did. -/
def fnExactSumCostUptoRow : OpenClaim := { program := "ytmgggbgejdkamaa", sum := "361b4c3b9c46fd54acef181d02165dd6d824eafe5fbd3b4a8d7c961aeb507ad3", func := "loop.example/wholetensors/laws.FnExactSumCost", spec := "fnExactSumCost", apart := false, narrowed := true }
def FnExactSumCostUptoSaid : Prop := fnExactSumCostUptoRow.holds Try.pinned (OpenSpec.upto fnExactSumCostSpec)

/-- 'laws.FnExactFactorShape', WHERE WHAT IT READS IS OF BULK AT MOST 1048576: true; the input reads as it did. -/
def fnExactFactorShapeUptoRow : OpenClaim := { program := "ytmgggbgejdkamaa", sum := "361b4c3b9c46fd54acef181d02165dd6d824eafe5fbd3b4a8d7c961aeb507ad3", func := "loop.example/wholetensors/laws.FnExactFactorShape", spec := "fnExactFactorShape", apart := false, narrowed := true }
def FnExactFactorShapeUptoSaid : Prop := fnExactFactorShapeUptoRow.holds Try.pinned (OpenSpec.upto fnExactFactorShapeSpec)

/-- 'laws.FnExactWithOrder', WHERE WHAT IT READS IS OF BULK AT MOST 1048576: true; the input reads as it did. -/
def fnExactWithOrderUptoRow : OpenClaim := { program := "ytmgggbgejdkamaa", sum := "361b4c3b9c46fd54acef181d02165dd6d824eafe5fbd3b4a8d7c961aeb507ad3", func := "loop.example/wholetensors/laws.FnExactWithOrder", spec := "fnExactWithOrder", apart := false, narrowed := true }
def FnExactWithOrderUptoSaid : Prop := fnExactWithOrderUptoRow.holds Try.pinned (OpenSpec.upto fnExactWithOrderSpec)

/-- 'laws.FnExactSumValue', WHERE WHAT IT READS IS OF BULK AT MOST 1048576: true; the input reads as it did. -/
def fnExactSumValueUptoRow : OpenClaim := { program := "ytmgggbgejdkamaa", sum := "361b4c3b9c46fd54acef181d02165dd6d824eafe5fbd3b4a8d7c961aeb507ad3", func := "loop.example/wholetensors/laws.FnExactSumValue", spec := "fnExactSumValue", apart := false, narrowed := true }
def FnExactSumValueUptoSaid : Prop := fnExactSumValueUptoRow.holds Try.pinned (OpenSpec.upto fnExactSumValueSpec)

end Rows
end Go.Proofs.Ytmgggbgejdkamaa
