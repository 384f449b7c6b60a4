/-
  No cell of these rows narrows 'for every input' (looked for: loops, veiled, ifaces, maps, wideKeys, modest, calm, conditions, laid).
  DERIVED. THE GIVEN ROWS OF THIS SEAT. 14 by the template 'for every input the law returns true; each argument reads behind the call as it read before'; 0 by the template 'total and deterministic' (their statements: YtgoolnkgcdmhmaaTotals.lean).
  GIVEN WITH THE SEED: the statements are not yours to turn. If you find one false, say at which input.
  Laid BY PROGRAM, IN A SANDBOX (cutbox-rows.mjs): the forced cells as the released guide's own fill.sh prints them over the translation 16ffd66f149ec12c… (all of the seat's roots in one cut). By AI agents, Wed Nov 11 2026. No macro, syntax, notation, axiom, sorry.
-/
import Derived.Test.YtgoolnkgcdmhmaaChecked
import GoSem.Claim
import GoSem.ClaimJoined
import GoSem.ClaimMapViews
import Derived.JoinedTies
import Derived.KernelRfl
namespace Go.Proofs.Ytgoolnkgcdmhmaa
/- THE CELL 'sum', in the pinned program and in every row, IS THE sha256 OF THE DUMP (.gsa) THAT YtgoolnkgcdmhmaaProg.lean LOADS. Nothing in Lean hashes anything: it is a label: what it is worth is what the hold of that sum in a sandbox is worth. -/
noncomputable def Try.pinned : Pinned := { name := "ytgoolnkgcdmhmaa", sum := "16ffd66f149ec12cf21b59e394fb45d7358a84dbdc4b03d538ece5f8f9c97c90", checked := Try.checked }
namespace Rows
def none {H : Type} : Left H := { results := [], args := [] }

/-- 'laws.FnExactTensorOk': WHATEVER THE INPUT: true; the input reads as it did. -/
def fnExactTensorOkSpec : ChangeSpec := { name := "fnExactTensorOk", fn := fun _ => fun
  | [d] => { results := [.lit (.bool true)], args := [d] }
  | _ => none }
def fnExactTensorOkRow : OpenClaim := { program := "ytgoolnkgcdmhmaa", sum := "16ffd66f149ec12cf21b59e394fb45d7358a84dbdc4b03d538ece5f8f9c97c90", func := "loop.example/wholetensors/laws.FnExactTensorOk", spec := "fnExactTensorOk", apart := false }
def FnExactTensorOkSaid : Prop := fnExactTensorOkRow.holds Try.pinned (OpenSpec.ofChange fnExactTensorOkSpec)

/-- ITS FALSE NEIGHBOUR: 'it returns false'. Refute it at one input. -/
def fnExactTensorOkWrong : ChangeSpec := { name := "fnExactTensorOk", fn := fun _ => fun
  | [d] => { results := [.lit (.bool false)], args := [d] }
  | _ => none }
def FnExactTensorOkWrongFalsely : Prop := fnExactTensorOkRow.holds Try.pinned (OpenSpec.ofChange fnExactTensorOkWrong)

/-- 'laws.FnExactNumAt': WHATEVER THE INPUT: true; the input reads as it did. -/
def fnExactNumAtSpec : ChangeSpec := { name := "fnExactNumAt", fn := fun _ => fun
  | [d1, d2] => { results := [.lit (.bool true)], args := [d1, d2] }
  | _ => none }
def fnExactNumAtRow : OpenClaim := { program := "ytgoolnkgcdmhmaa", sum := "16ffd66f149ec12cf21b59e394fb45d7358a84dbdc4b03d538ece5f8f9c97c90", func := "loop.example/wholetensors/laws.FnExactNumAt", spec := "fnExactNumAt", apart := false }
def FnExactNumAtSaid : Prop := fnExactNumAtRow.holds Try.pinned (OpenSpec.ofChange fnExactNumAtSpec)

/-- ITS FALSE NEIGHBOUR: 'it returns false'. Refute it at one input. -/
def fnExactNumAtWrong : ChangeSpec := { name := "fnExactNumAt", fn := fun _ => fun
  | [d1, d2] => { results := [.lit (.bool false)], args := [d1, d2] }
  | _ => none }
def FnExactNumAtWrongFalsely : Prop := fnExactNumAtRow.holds Try.pinned (OpenSpec.ofChange fnExactNumAtWrong)

/-- 'laws.FnExactSpreadOf': WHATEVER THE INPUT: true; the input reads as it did. -/
def fnExactSpreadOfSpec : ChangeSpec := { name := "fnExactSpreadOf", fn := fun _ => fun
  | [d1, d2] => { results := [.lit (.bool true)], args := [d1, d2] }
  | _ => none }
def fnExactSpreadOfRow : OpenClaim := { program := "ytgoolnkgcdmhmaa", sum := "16ffd66f149ec12cf21b59e394fb45d7358a84dbdc4b03d538ece5f8f9c97c90", func := "loop.example/wholetensors/laws.FnExactSpreadOf", spec := "fnExactSpreadOf", apart := false }
def FnExactSpreadOfSaid : Prop := fnExactSpreadOfRow.holds Try.pinned (OpenSpec.ofChange fnExactSpreadOfSpec)

/-- ITS FALSE NEIGHBOUR: 'it returns false'. Refute it at one input. -/
def fnExactSpreadOfWrong : ChangeSpec := { name := "fnExactSpreadOf", fn := fun _ => fun
  | [d1, d2] => { results := [.lit (.bool false)], args := [d1, d2] }
  | _ => none }
def FnExactSpreadOfWrongFalsely : Prop := fnExactSpreadOfRow.holds Try.pinned (OpenSpec.ofChange fnExactSpreadOfWrong)

/-- 'laws.FnExactTwoOf': WHATEVER THE INPUT: true; the input reads as it did. -/
def fnExactTwoOfSpec : ChangeSpec := { name := "fnExactTwoOf", fn := fun _ => fun
  | [d1, d2, d3] => { results := [.lit (.bool true)], args := [d1, d2, d3] }
  | _ => none }
def fnExactTwoOfRow : OpenClaim := { program := "ytgoolnkgcdmhmaa", sum := "16ffd66f149ec12cf21b59e394fb45d7358a84dbdc4b03d538ece5f8f9c97c90", func := "loop.example/wholetensors/laws.FnExactTwoOf", spec := "fnExactTwoOf", apart := false }
def FnExactTwoOfSaid : Prop := fnExactTwoOfRow.holds Try.pinned (OpenSpec.ofChange fnExactTwoOfSpec)

/-- ITS FALSE NEIGHBOUR: 'it returns false'. Refute it at one input. -/
def fnExactTwoOfWrong : ChangeSpec := { name := "fnExactTwoOf", fn := fun _ => fun
  | [d1, d2, d3] => { results := [.lit (.bool false)], args := [d1, d2, d3] }
  | _ => none }
def FnExactTwoOfWrongFalsely : Prop := fnExactTwoOfRow.holds Try.pinned (OpenSpec.ofChange fnExactTwoOfWrong)

/-- 'laws.FnExactNegOf': WHATEVER THE INPUT: true; the input reads as it did. -/
def fnExactNegOfSpec : ChangeSpec := { name := "fnExactNegOf", fn := fun _ => fun
  | [d] => { results := [.lit (.bool true)], args := [d] }
  | _ => none }
def fnExactNegOfRow : OpenClaim := { program := "ytgoolnkgcdmhmaa", sum := "16ffd66f149ec12cf21b59e394fb45d7358a84dbdc4b03d538ece5f8f9c97c90", func := "loop.example/wholetensors/laws.FnExactNegOf", spec := "fnExactNegOf", apart := false }
def FnExactNegOfSaid : Prop := fnExactNegOfRow.holds Try.pinned (OpenSpec.ofChange fnExactNegOfSpec)

/-- ITS FALSE NEIGHBOUR: 'it returns false'. Refute it at one input. -/
def fnExactNegOfWrong : ChangeSpec := { name := "fnExactNegOf", fn := fun _ => fun
  | [d] => { results := [.lit (.bool false)], args := [d] }
  | _ => none }
def FnExactNegOfWrongFalsely : Prop := fnExactNegOfRow.holds Try.pinned (OpenSpec.ofChange fnExactNegOfWrong)

/-- 'laws.FnExactSumAlong': WHATEVER THE INPUT: true; the input reads as it did. -/
def fnExactSumAlongSpec : ChangeSpec := { name := "fnExactSumAlong", fn := fun _ => fun
  | [d1, d2] => { results := [.lit (.bool true)], args := [d1, d2] }
  | _ => none }
def fnExactSumAlongRow : OpenClaim := { program := "ytgoolnkgcdmhmaa", sum := "16ffd66f149ec12cf21b59e394fb45d7358a84dbdc4b03d538ece5f8f9c97c90", func := "loop.example/wholetensors/laws.FnExactSumAlong", spec := "fnExactSumAlong", apart := false }
def FnExactSumAlongSaid : Prop := fnExactSumAlongRow.holds Try.pinned (OpenSpec.ofChange fnExactSumAlongSpec)

/-- ITS FALSE NEIGHBOUR: 'it returns false'. Refute it at one input. -/
def fnExactSumAlongWrong : ChangeSpec := { name := "fnExactSumAlong", fn := fun _ => fun
  | [d1, d2] => { results := [.lit (.bool false)], args := [d1, d2] }
  | _ => none }
def FnExactSumAlongWrongFalsely : Prop := fnExactSumAlongRow.holds Try.pinned (OpenSpec.ofChange fnExactSumAlongWrong)

/-- 'laws.FnExactTurnOf': WHATEVER THE INPUT: true; the input reads as it did. -/
def fnExactTurnOfSpec : ChangeSpec := { name := "fnExactTurnOf", fn := fun _ => fun
  | [d1, d2] => { results := [.lit (.bool true)], args := [d1, d2] }
  | _ => none }
def fnExactTurnOfRow : OpenClaim := { program := "ytgoolnkgcdmhmaa", sum := "16ffd66f149ec12cf21b59e394fb45d7358a84dbdc4b03d538ece5f8f9c97c90", func := "loop.example/wholetensors/laws.FnExactTurnOf", spec := "fnExactTurnOf", apart := false }
def FnExactTurnOfSaid : Prop := fnExactTurnOfRow.holds Try.pinned (OpenSpec.ofChange fnExactTurnOfSpec)

/-- ITS FALSE NEIGHBOUR: 'it returns false'. Refute it at one input. -/
def fnExactTurnOfWrong : ChangeSpec := { name := "fnExactTurnOf", fn := fun _ => fun
  | [d1, d2] => { results := [.lit (.bool false)], args := [d1, d2] }
  | _ => none }
def FnExactTurnOfWrongFalsely : Prop := fnExactTurnOfRow.holds Try.pinned (OpenSpec.ofChange fnExactTurnOfWrong)

/-- 'laws.FnExactFoldOf': WHATEVER THE INPUT: true; the input reads as it did. -/
def fnExactFoldOfSpec : ChangeSpec := { name := "fnExactFoldOf", fn := fun _ => fun
  | [d1, d2] => { results := [.lit (.bool true)], args := [d1, d2] }
  | _ => none }
def fnExactFoldOfRow : OpenClaim := { program := "ytgoolnkgcdmhmaa", sum := "16ffd66f149ec12cf21b59e394fb45d7358a84dbdc4b03d538ece5f8f9c97c90", func := "loop.example/wholetensors/laws.FnExactFoldOf", spec := "fnExactFoldOf", apart := false }
def FnExactFoldOfSaid : Prop := fnExactFoldOfRow.holds Try.pinned (OpenSpec.ofChange fnExactFoldOfSpec)

/-- ITS FALSE NEIGHBOUR: 'it returns false'. Refute it at one input. -/
def fnExactFoldOfWrong : ChangeSpec := { name := "fnExactFoldOf", fn := fun _ => fun
  | [d1, d2] => { results := [.lit (.bool false)], args := [d1, d2] }
  | _ => none }
def FnExactFoldOfWrongFalsely : Prop := fnExactFoldOfRow.holds Try.pinned (OpenSpec.ofChange fnExactFoldOfWrong)

/-- 'laws.FnExactCutOf': WHATEVER THE INPUT: true; the input reads as it did. -/
def fnExactCutOfSpec : ChangeSpec := { name := "fnExactCutOf", fn := fun _ => fun
  | [d1, d2, d3, d4] => { results := [.lit (.bool true)], args := [d1, d2, d3, d4] }
  | _ => none }
def fnExactCutOfRow : OpenClaim := { program := "ytgoolnkgcdmhmaa", sum := "16ffd66f149ec12cf21b59e394fb45d7358a84dbdc4b03d538ece5f8f9c97c90", func := "loop.example/wholetensors/laws.FnExactCutOf", spec := "fnExactCutOf", apart := false }
def FnExactCutOfSaid : Prop := fnExactCutOfRow.holds Try.pinned (OpenSpec.ofChange fnExactCutOfSpec)

/-- ITS FALSE NEIGHBOUR: 'it returns false'. Refute it at one input. -/
def fnExactCutOfWrong : ChangeSpec := { name := "fnExactCutOf", fn := fun _ => fun
  | [d1, d2, d3, d4] => { results := [.lit (.bool false)], args := [d1, d2, d3, d4] }
  | _ => none }
def FnExactCutOfWrongFalsely : Prop := fnExactCutOfRow.holds Try.pinned (OpenSpec.ofChange fnExactCutOfWrong)

/-- 'laws.FnExactBesideOf': WHATEVER THE INPUT: true; the input reads as it did. -/
def fnExactBesideOfSpec : ChangeSpec := { name := "fnExactBesideOf", fn := fun _ => fun
  | [d1, d2, d3] => { results := [.lit (.bool true)], args := [d1, d2, d3] }
  | _ => none }
def fnExactBesideOfRow : OpenClaim := { program := "ytgoolnkgcdmhmaa", sum := "16ffd66f149ec12cf21b59e394fb45d7358a84dbdc4b03d538ece5f8f9c97c90", func := "loop.example/wholetensors/laws.FnExactBesideOf", spec := "fnExactBesideOf", apart := false }
def FnExactBesideOfSaid : Prop := fnExactBesideOfRow.holds Try.pinned (OpenSpec.ofChange fnExactBesideOfSpec)

/-- ITS FALSE NEIGHBOUR: 'it returns false'. Refute it at one input. -/
def fnExactBesideOfWrong : ChangeSpec := { name := "fnExactBesideOf", fn := fun _ => fun
  | [d1, d2, d3] => { results := [.lit (.bool false)], args := [d1, d2, d3] }
  | _ => none }
def FnExactBesideOfWrongFalsely : Prop := fnExactBesideOfRow.holds Try.pinned (OpenSpec.ofChange fnExactBesideOfWrong)

/-- 'laws.FnExactProductOf': WHATEVER THE INPUT: true; the input reads as it did. -/
def fnExactProductOfSpec : ChangeSpec := { name := "fnExactProductOf", fn := fun _ => fun
  | [d1, d2] => { results := [.lit (.bool true)], args := [d1, d2] }
  | _ => none }
def fnExactProductOfRow : OpenClaim := { program := "ytgoolnkgcdmhmaa", sum := "16ffd66f149ec12cf21b59e394fb45d7358a84dbdc4b03d538ece5f8f9c97c90", func := "loop.example/wholetensors/laws.FnExactProductOf", spec := "fnExactProductOf", apart := false }
def FnExactProductOfSaid : Prop := fnExactProductOfRow.holds Try.pinned (OpenSpec.ofChange fnExactProductOfSpec)

/-- ITS FALSE NEIGHBOUR: 'it returns false'. Refute it at one input. -/
def fnExactProductOfWrong : ChangeSpec := { name := "fnExactProductOf", fn := fun _ => fun
  | [d1, d2] => { results := [.lit (.bool false)], args := [d1, d2] }
  | _ => none }
def FnExactProductOfWrongFalsely : Prop := fnExactProductOfRow.holds Try.pinned (OpenSpec.ofChange fnExactProductOfWrong)

/-- 'laws.FnTurnOf': WHATEVER THE INPUT: true; the input reads as it did. -/
def fnTurnOfSpec : ChangeSpec := { name := "fnTurnOf", fn := fun _ => fun
  | [d] => { results := [.lit (.bool true)], args := [d] }
  | _ => none }
def fnTurnOfRow : OpenClaim := { program := "ytgoolnkgcdmhmaa", sum := "16ffd66f149ec12cf21b59e394fb45d7358a84dbdc4b03d538ece5f8f9c97c90", func := "loop.example/wholetensors/laws.FnTurnOf", spec := "fnTurnOf", apart := false }
def FnTurnOfSaid : Prop := fnTurnOfRow.holds Try.pinned (OpenSpec.ofChange fnTurnOfSpec)

/-- ITS FALSE NEIGHBOUR: 'it returns false'. Refute it at one input. -/
def fnTurnOfWrong : ChangeSpec := { name := "fnTurnOf", fn := fun _ => fun
  | [d] => { results := [.lit (.bool false)], args := [d] }
  | _ => none }
def FnTurnOfWrongFalsely : Prop := fnTurnOfRow.holds Try.pinned (OpenSpec.ofChange fnTurnOfWrong)

/-- 'laws.FnSumAlong': WHATEVER THE INPUT: true; the input reads as it did. -/
def fnSumAlongSpec : ChangeSpec := { name := "fnSumAlong", fn := fun _ => fun
  | [d] => { results := [.lit (.bool true)], args := [d] }
  | _ => none }
def fnSumAlongRow : OpenClaim := { program := "ytgoolnkgcdmhmaa", sum := "16ffd66f149ec12cf21b59e394fb45d7358a84dbdc4b03d538ece5f8f9c97c90", func := "loop.example/wholetensors/laws.FnSumAlong", spec := "fnSumAlong", apart := false }
def FnSumAlongSaid : Prop := fnSumAlongRow.holds Try.pinned (OpenSpec.ofChange fnSumAlongSpec)

/-- ITS FALSE NEIGHBOUR: 'it returns false'. Refute it at one input. -/
def fnSumAlongWrong : ChangeSpec := { name := "fnSumAlong", fn := fun _ => fun
  | [d] => { results := [.lit (.bool false)], args := [d] }
  | _ => none }
def FnSumAlongWrongFalsely : Prop := fnSumAlongRow.holds Try.pinned (OpenSpec.ofChange fnSumAlongWrong)

/-- 'laws.FnCutOf': WHATEVER THE INPUT: true; the input reads as it did. -/
def fnCutOfSpec : ChangeSpec := { name := "fnCutOf", fn := fun _ => fun
  | [d] => { results := [.lit (.bool true)], args := [d] }
  | _ => none }
def fnCutOfRow : OpenClaim := { program := "ytgoolnkgcdmhmaa", sum := "16ffd66f149ec12cf21b59e394fb45d7358a84dbdc4b03d538ece5f8f9c97c90", func := "loop.example/wholetensors/laws.FnCutOf", spec := "fnCutOf", apart := false }
def FnCutOfSaid : Prop := fnCutOfRow.holds Try.pinned (OpenSpec.ofChange fnCutOfSpec)

/-- ITS FALSE NEIGHBOUR: 'it returns false'. Refute it at one input. -/
def fnCutOfWrong : ChangeSpec := { name := "fnCutOf", fn := fun _ => fun
  | [d] => { results := [.lit (.bool false)], args := [d] }
  | _ => none }
def FnCutOfWrongFalsely : Prop := fnCutOfRow.holds Try.pinned (OpenSpec.ofChange fnCutOfWrong)

/- THE SECOND FORM. 'bulk': how many values and letters a reading holds, each counted each time it is reached (what is shared counts as often as it is met; a slice's spare places count too). A statement '..UptoSaid' is the law's where the arguments, and the package variables that the reading takes, are together of bulk at most 1048576: NARROWER than '..Said'. Prove '..Said' where nothing that the law and all that it calls make is longer than what came in: it says more and counts as full. Else prove '..UptoSaid'. A law counts once. -/
mutual
def uptoBulk {H : Type} : DataW H → Nat
  | .lit (.string bytes) => bytes.length + 1
  | .lit _ => 1
  | .nil => 1
  | .ptr d => uptoBulk d + 1
  | .slice elems spare => uptoBulkAll elems + uptoBulkAll spare + 1
  | .agg parts => uptoBulkAll parts + 1
  | .iface _ d => uptoBulk d + 1
  | .map entries => uptoBulkEntries entries + 1
  | .held _ => 1
def uptoBulkAll {H : Type} : List (DataW H) → Nat
  | [] => 0
  | d :: r => uptoBulk d + uptoBulkAll r
def uptoBulkEntries {H : Type} : List (Lit × DataW H) → Nat
  | [] => 0
  | x :: r => uptoBulkEntry x + uptoBulkEntries r
def uptoBulkEntry {H : Type} : Lit × DataW H → Nat
  | (.string bytes, d) => bytes.length + uptoBulk d + 1
  | (_, d) => uptoBulk d + 1
 end
def uptoSmall : (H : Type) → List (DataW H) → Bool := fun _ ds => decide (uptoBulkAll ds ≤ 1048576)
def OpenSpec.upto (s : _root_.Go.ChangeSpec) : _root_.Go.OpenSpec := { _root_.Go.OpenSpec.ofChange s with cond := some uptoSmall }

/-- 'laws.FnExactTensorOk', WHERE WHAT IT READS IS OF BULK AT MOST 1048576: true; the input reads as it did. -/
def fnExactTensorOkUptoRow : OpenClaim := { program := "ytgoolnkgcdmhmaa", sum := "16ffd66f149ec12cf21b59e394fb45d7358a84dbdc4b03d538ece5f8f9c97c90", func := "loop.example/wholetensors/laws.FnExactTensorOk", spec := "fnExactTensorOk", apart := false, narrowed := true }
def FnExactTensorOkUptoSaid : Prop := fnExactTensorOkUptoRow.holds Try.pinned (OpenSpec.upto fnExactTensorOkSpec)

/-- 'laws.FnExactNumAt', WHERE WHAT IT READS IS OF BULK AT MOST 1048576: true; the input reads as it did. -/
def fnExactNumAtUptoRow : OpenClaim := { program := "ytgoolnkgcdmhmaa", sum := "16ffd66f149ec12cf21b59e394fb45d7358a84dbdc4b03d538ece5f8f9c97c90", func := "loop.example/wholetensors/laws.FnExactNumAt", spec := "fnExactNumAt", apart := false, narrowed := true }
def FnExactNumAtUptoSaid : Prop := fnExactNumAtUptoRow.holds Try.pinned (OpenSpec.upto fnExactNumAtSpec)

/-- 'laws.FnExactSpreadOf', WHERE WHAT IT READS IS OF BULK AT MOST 1048576: true; the input reads as it did. -/
def fnExactSpreadOfUptoRow : OpenClaim := { program := "ytgoolnkgcdmhmaa", sum := "16ffd66f149ec12cf21b59e394fb45d7358a84dbdc4b03d538ece5f8f9c97c90", func := "loop.example/wholetensors/laws.FnExactSpreadOf", spec := "fnExactSpreadOf", apart := false, narrowed := true }
def FnExactSpreadOfUptoSaid : Prop := fnExactSpreadOfUptoRow.holds Try.pinned (OpenSpec.upto fnExactSpreadOfSpec)

/-- 'laws.FnExactTwoOf', WHERE WHAT IT READS IS OF BULK AT MOST 1048576: true; the input reads as it did. -/
def fnExactTwoOfUptoRow : OpenClaim := { program := "ytgoolnkgcdmhmaa", sum := "16ffd66f149ec12cf21b59e394fb45d7358a84dbdc4b03d538ece5f8f9c97c90", func := "loop.example/wholetensors/laws.FnExactTwoOf", spec := "fnExactTwoOf", apart := false, narrowed := true }
def FnExactTwoOfUptoSaid : Prop := fnExactTwoOfUptoRow.holds Try.pinned (OpenSpec.upto fnExactTwoOfSpec)

/-- 'laws.FnExactNegOf', WHERE WHAT IT READS IS OF BULK AT MOST 1048576: true; the input reads as it did. -/
def fnExactNegOfUptoRow : OpenClaim := { program := "ytgoolnkgcdmhmaa", sum := "16ffd66f149ec12cf21b59e394fb45d7358a84dbdc4b03d538ece5f8f9c97c90", func := "loop.example/wholetensors/laws.FnExactNegOf", spec := "fnExactNegOf", apart := false, narrowed := true }
def FnExactNegOfUptoSaid : Prop := fnExactNegOfUptoRow.holds Try.pinned (OpenSpec.upto fnExactNegOfSpec)

/-- 'laws.FnExactSumAlong', WHERE WHAT IT READS IS OF BULK AT MOST 1048576: true; the input reads as it did. -/
def fnExactSumAlongUptoRow : OpenClaim := { program := "ytgoolnkgcdmhmaa", sum := "16ffd66f149ec12cf21b59e394fb45d7358a84dbdc4b03d538ece5f8f9c97c90", func := "loop.example/wholetensors/laws.FnExactSumAlong", spec := "fnExactSumAlong", apart := false, narrowed := true }
def FnExactSumAlongUptoSaid : Prop := fnExactSumAlongUptoRow.holds Try.pinned (OpenSpec.upto fnExactSumAlongSpec)

/-- 'laws.FnExactTurnOf', WHERE WHAT IT READS IS OF BULK AT MOST 1048576: true; the input reads as it did. -/
def fnExactTurnOfUptoRow : OpenClaim := { program := "ytgoolnkgcdmhmaa", sum := "16ffd66f149ec12cf21b59e394fb45d7358a84dbdc4b03d538ece5f8f9c97c90", func := "loop.example/wholetensors/laws.FnExactTurnOf", spec := "fnExactTurnOf", apart := false, narrowed := true }
def FnExactTurnOfUptoSaid : Prop := fnExactTurnOfUptoRow.holds Try.pinned (OpenSpec.upto fnExactTurnOfSpec)

/-- 'laws.FnExactFoldOf', WHERE WHAT IT READS IS OF BULK AT MOST 1048576: true; the input reads as it did. -/
def fnExactFoldOfUptoRow : OpenClaim := { program := "ytgoolnkgcdmhmaa", sum := "16ffd66f149ec12cf21b59e394fb45d7358a84dbdc4b03d538ece5f8f9c97c90", func := "loop.example/wholetensors/laws.FnExactFoldOf", spec := "fnExactFoldOf", apart := false, narrowed := true }
def FnExactFoldOfUptoSaid : Prop := fnExactFoldOfUptoRow.holds Try.pinned (OpenSpec.upto fnExactFoldOfSpec)

/-- 'laws.FnExactCutOf', WHERE WHAT IT READS IS OF BULK AT MOST 1048576: true; the input reads as it did. -/
def fnExactCutOfUptoRow : OpenClaim := { program := "ytgoolnkgcdmhmaa", sum := "16ffd66f149ec12cf21b59e394fb45d7358a84dbdc4b03d538ece5f8f9c97c90", func := "loop.example/wholetensors/laws.FnExactCutOf", spec := "fnExactCutOf", apart := false, narrowed := true }
def FnExactCutOfUptoSaid : Prop := fnExactCutOfUptoRow.holds Try.pinned (OpenSpec.upto fnExactCutOfSpec)

/-- 'laws.FnExactBesideOf', WHERE WHAT IT READS IS OF BULK AT MOST 1048576: true; the input reads as it did. -/
def fnExactBesideOfUptoRow : OpenClaim := { program := "ytgoolnkgcdmhmaa", sum := "16ffd66f149ec12cf21b59e394fb45d7358a84dbdc4b03d538ece5f8f9c97c90", func := "loop.example/wholetensors/laws.FnExactBesideOf", spec := "fnExactBesideOf", apart := false, narrowed := true }
def FnExactBesideOfUptoSaid : Prop := fnExactBesideOfUptoRow.holds Try.pinned (OpenSpec.upto fnExactBesideOfSpec)

/-- 'laws.FnExactProductOf', WHERE WHAT IT READS IS OF BULK AT MOST 1048576: true; the input reads as it did. -/
def fnExactProductOfUptoRow : OpenClaim := { program := "ytgoolnkgcdmhmaa", sum := "16ffd66f149ec12cf21b59e394fb45d7358a84dbdc4b03d538ece5f8f9c97c90", func := "loop.example/wholetensors/laws.FnExactProductOf", spec := "fnExactProductOf", apart := false, narrowed := true }
def FnExactProductOfUptoSaid : Prop := fnExactProductOfUptoRow.holds Try.pinned (OpenSpec.upto fnExactProductOfSpec)

/-- 'laws.FnTurnOf', WHERE WHAT IT READS IS OF BULK AT MOST 1048576: true; the input reads as it did. -/
def fnTurnOfUptoRow : OpenClaim := { program := "ytgoolnkgcdmhmaa", sum := "16ffd66f149ec12cf21b59e394fb45d7358a84dbdc4b03d538ece5f8f9c97c90", func := "loop.example/wholetensors/laws.FnTurnOf", spec := "fnTurnOf", apart := false, narrowed := true }
def FnTurnOfUptoSaid : Prop := fnTurnOfUptoRow.holds Try.pinned (OpenSpec.upto fnTurnOfSpec)

/-- 'laws.FnSumAlong', WHERE WHAT IT READS IS OF BULK AT MOST 1048576: true; the input reads as it did. -/
def fnSumAlongUptoRow : OpenClaim := { program := "ytgoolnkgcdmhmaa", sum := "16ffd66f149ec12cf21b59e394fb45d7358a84dbdc4b03d538ece5f8f9c97c90", func := "loop.example/wholetensors/laws.FnSumAlong", spec := "fnSumAlong", apart := false, narrowed := true }
def FnSumAlongUptoSaid : Prop := fnSumAlongUptoRow.holds Try.pinned (OpenSpec.upto fnSumAlongSpec)

/-- 'laws.FnCutOf', WHERE WHAT IT READS IS OF BULK AT MOST 1048576: true; the input reads as it did. -/
def fnCutOfUptoRow : OpenClaim := { program := "ytgoolnkgcdmhmaa", sum := "16ffd66f149ec12cf21b59e394fb45d7358a84dbdc4b03d538ece5f8f9c97c90", func := "loop.example/wholetensors/laws.FnCutOf", spec := "fnCutOf", apart := false, narrowed := true }
def FnCutOfUptoSaid : Prop := fnCutOfUptoRow.holds Try.pinned (OpenSpec.upto fnCutOfSpec)

end Rows
end Go.Proofs.Ytgoolnkgcdmhmaa
