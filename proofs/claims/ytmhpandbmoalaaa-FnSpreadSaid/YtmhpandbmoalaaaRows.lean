/-
  No cell of these rows narrows 'for every input' (looked for: loops, veiled, ifaces, maps, wideKeys, modest, calm, conditions, laid).
  DERIVED. THE GIVEN ROWS OF THIS SEAT. 14 by the template 'for every input the law returns true; each argument reads behind the call as it read before'; 0 by the template 'total and deterministic' (their statements: YtmhpandbmoalaaaTotals.lean).
  GIVEN WITH THE SEED: the statements are not yours to turn. If you find one false, say at which input.
  Laid BY PROGRAM, IN A SANDBOX (cutbox-rows.mjs): the forced cells as the released guide's own fill.sh prints them over the translation 399680ba79f6caa0… (all of the seat's roots in one cut). By AI agents, Wed Nov 11 2026. No macro, syntax, notation, axiom, sorry.
-/
import Derived.Test.YtmhpandbmoalaaaChecked
import GoSem.Claim
import GoSem.ClaimJoined
import GoSem.ClaimMapViews
import Derived.JoinedTies
import Derived.KernelRfl
namespace Go.Proofs.Ytmhpandbmoalaaa
/- THE CELL 'sum', in the pinned program and in every row, IS THE sha256 OF THE DUMP (.gsa) THAT YtmhpandbmoalaaaProg.lean LOADS. Nothing in Lean hashes anything: it is a label: what it is worth is what the hold of that sum in a sandbox is worth. -/
noncomputable def Try.pinned : Pinned := { name := "ytmhpandbmoalaaa", sum := "399680ba79f6caa08b0bf87ae5b338ec4b1c00288bae3be75d310b342b36337e", checked := Try.checked }
namespace Rows
def none {H : Type} : Left H := { results := [], args := [] }

/-- 'laws.FnIndexAt': WHATEVER THE INPUT: true; the input reads as it did. -/
def fnIndexAtSpec : ChangeSpec := { name := "fnIndexAt", fn := fun _ => fun
  | [d] => { results := [.lit (.bool true)], args := [d] }
  | _ => none }
def fnIndexAtRow : OpenClaim := { program := "ytmhpandbmoalaaa", sum := "399680ba79f6caa08b0bf87ae5b338ec4b1c00288bae3be75d310b342b36337e", func := "loop.example/wholetensors/laws.FnIndexAt", spec := "fnIndexAt", apart := false }
def FnIndexAtSaid : Prop := fnIndexAtRow.holds Try.pinned (OpenSpec.ofChange fnIndexAtSpec)

/-- ITS FALSE NEIGHBOUR: 'it returns false'. Refute it at one input. -/
def fnIndexAtWrong : ChangeSpec := { name := "fnIndexAt", fn := fun _ => fun
  | [d] => { results := [.lit (.bool false)], args := [d] }
  | _ => none }
def FnIndexAtWrongFalsely : Prop := fnIndexAtRow.holds Try.pinned (OpenSpec.ofChange fnIndexAtWrong)

/-- 'laws.FnSpread': WHATEVER THE INPUT: true; the input reads as it did. -/
def fnSpreadSpec : ChangeSpec := { name := "fnSpread", fn := fun _ => fun
  | [d] => { results := [.lit (.bool true)], args := [d] }
  | _ => none }
def fnSpreadRow : OpenClaim := { program := "ytmhpandbmoalaaa", sum := "399680ba79f6caa08b0bf87ae5b338ec4b1c00288bae3be75d310b342b36337e", func := "loop.example/wholetensors/laws.FnSpread", spec := "fnSpread", apart := false }
def FnSpreadSaid : Prop := fnSpreadRow.holds Try.pinned (OpenSpec.ofChange fnSpreadSpec)

/-- ITS FALSE NEIGHBOUR: 'it returns false'. Refute it at one input. -/
def fnSpreadWrong : ChangeSpec := { name := "fnSpread", fn := fun _ => fun
  | [d] => { results := [.lit (.bool false)], args := [d] }
  | _ => none }
def FnSpreadWrongFalsely : Prop := fnSpreadRow.holds Try.pinned (OpenSpec.ofChange fnSpreadWrong)

/-- 'laws.FnSpreadIndex': WHATEVER THE INPUT: true; the input reads as it did. -/
def fnSpreadIndexSpec : ChangeSpec := { name := "fnSpreadIndex", fn := fun _ => fun
  | [d] => { results := [.lit (.bool true)], args := [d] }
  | _ => none }
def fnSpreadIndexRow : OpenClaim := { program := "ytmhpandbmoalaaa", sum := "399680ba79f6caa08b0bf87ae5b338ec4b1c00288bae3be75d310b342b36337e", func := "loop.example/wholetensors/laws.FnSpreadIndex", spec := "fnSpreadIndex", apart := false }
def FnSpreadIndexSaid : Prop := fnSpreadIndexRow.holds Try.pinned (OpenSpec.ofChange fnSpreadIndexSpec)

/-- ITS FALSE NEIGHBOUR: 'it returns false'. Refute it at one input. -/
def fnSpreadIndexWrong : ChangeSpec := { name := "fnSpreadIndex", fn := fun _ => fun
  | [d] => { results := [.lit (.bool false)], args := [d] }
  | _ => none }
def FnSpreadIndexWrongFalsely : Prop := fnSpreadIndexRow.holds Try.pinned (OpenSpec.ofChange fnSpreadIndexWrong)

/-- 'laws.FnTurns': WHATEVER THE INPUT: true; the input reads as it did. -/
def fnTurnsSpec : ChangeSpec := { name := "fnTurns", fn := fun _ => fun
  | [d] => { results := [.lit (.bool true)], args := [d] }
  | _ => none }
def fnTurnsRow : OpenClaim := { program := "ytmhpandbmoalaaa", sum := "399680ba79f6caa08b0bf87ae5b338ec4b1c00288bae3be75d310b342b36337e", func := "loop.example/wholetensors/laws.FnTurns", spec := "fnTurns", apart := false }
def FnTurnsSaid : Prop := fnTurnsRow.holds Try.pinned (OpenSpec.ofChange fnTurnsSpec)

/-- ITS FALSE NEIGHBOUR: 'it returns false'. Refute it at one input. -/
def fnTurnsWrong : ChangeSpec := { name := "fnTurns", fn := fun _ => fun
  | [d] => { results := [.lit (.bool false)], args := [d] }
  | _ => none }
def FnTurnsWrongFalsely : Prop := fnTurnsRow.holds Try.pinned (OpenSpec.ofChange fnTurnsWrong)

/-- 'laws.FnExactShapeOk': WHATEVER THE INPUT: true; the input reads as it did. -/
def fnExactShapeOkSpec : ChangeSpec := { name := "fnExactShapeOk", fn := fun _ => fun
  | [d] => { results := [.lit (.bool true)], args := [d] }
  | _ => none }
def fnExactShapeOkRow : OpenClaim := { program := "ytmhpandbmoalaaa", sum := "399680ba79f6caa08b0bf87ae5b338ec4b1c00288bae3be75d310b342b36337e", func := "loop.example/wholetensors/laws.FnExactShapeOk", spec := "fnExactShapeOk", apart := false }
def FnExactShapeOkSaid : Prop := fnExactShapeOkRow.holds Try.pinned (OpenSpec.ofChange fnExactShapeOkSpec)

/-- ITS FALSE NEIGHBOUR: 'it returns false'. Refute it at one input. -/
def fnExactShapeOkWrong : ChangeSpec := { name := "fnExactShapeOk", fn := fun _ => fun
  | [d] => { results := [.lit (.bool false)], args := [d] }
  | _ => none }
def FnExactShapeOkWrongFalsely : Prop := fnExactShapeOkRow.holds Try.pinned (OpenSpec.ofChange fnExactShapeOkWrong)

/-- 'laws.FnExactCountOf': WHATEVER THE INPUT: true; the input reads as it did. -/
def fnExactCountOfSpec : ChangeSpec := { name := "fnExactCountOf", fn := fun _ => fun
  | [d] => { results := [.lit (.bool true)], args := [d] }
  | _ => none }
def fnExactCountOfRow : OpenClaim := { program := "ytmhpandbmoalaaa", sum := "399680ba79f6caa08b0bf87ae5b338ec4b1c00288bae3be75d310b342b36337e", func := "loop.example/wholetensors/laws.FnExactCountOf", spec := "fnExactCountOf", apart := false }
def FnExactCountOfSaid : Prop := fnExactCountOfRow.holds Try.pinned (OpenSpec.ofChange fnExactCountOfSpec)

/-- ITS FALSE NEIGHBOUR: 'it returns false'. Refute it at one input. -/
def fnExactCountOfWrong : ChangeSpec := { name := "fnExactCountOf", fn := fun _ => fun
  | [d] => { results := [.lit (.bool false)], args := [d] }
  | _ => none }
def FnExactCountOfWrongFalsely : Prop := fnExactCountOfRow.holds Try.pinned (OpenSpec.ofChange fnExactCountOfWrong)

/-- 'laws.FnExactStridesOf': WHATEVER THE INPUT: true; the input reads as it did. -/
def fnExactStridesOfSpec : ChangeSpec := { name := "fnExactStridesOf", fn := fun _ => fun
  | [d] => { results := [.lit (.bool true)], args := [d] }
  | _ => none }
def fnExactStridesOfRow : OpenClaim := { program := "ytmhpandbmoalaaa", sum := "399680ba79f6caa08b0bf87ae5b338ec4b1c00288bae3be75d310b342b36337e", func := "loop.example/wholetensors/laws.FnExactStridesOf", spec := "fnExactStridesOf", apart := false }
def FnExactStridesOfSaid : Prop := fnExactStridesOfRow.holds Try.pinned (OpenSpec.ofChange fnExactStridesOfSpec)

/-- ITS FALSE NEIGHBOUR: 'it returns false'. Refute it at one input. -/
def fnExactStridesOfWrong : ChangeSpec := { name := "fnExactStridesOf", fn := fun _ => fun
  | [d] => { results := [.lit (.bool false)], args := [d] }
  | _ => none }
def FnExactStridesOfWrongFalsely : Prop := fnExactStridesOfRow.holds Try.pinned (OpenSpec.ofChange fnExactStridesOfWrong)

/-- 'laws.FnExactIndexAt': WHATEVER THE INPUT: true; the input reads as it did. -/
def fnExactIndexAtSpec : ChangeSpec := { name := "fnExactIndexAt", fn := fun _ => fun
  | [d1, d2] => { results := [.lit (.bool true)], args := [d1, d2] }
  | _ => none }
def fnExactIndexAtRow : OpenClaim := { program := "ytmhpandbmoalaaa", sum := "399680ba79f6caa08b0bf87ae5b338ec4b1c00288bae3be75d310b342b36337e", func := "loop.example/wholetensors/laws.FnExactIndexAt", spec := "fnExactIndexAt", apart := false }
def FnExactIndexAtSaid : Prop := fnExactIndexAtRow.holds Try.pinned (OpenSpec.ofChange fnExactIndexAtSpec)

/-- ITS FALSE NEIGHBOUR: 'it returns false'. Refute it at one input. -/
def fnExactIndexAtWrong : ChangeSpec := { name := "fnExactIndexAt", fn := fun _ => fun
  | [d1, d2] => { results := [.lit (.bool false)], args := [d1, d2] }
  | _ => none }
def FnExactIndexAtWrongFalsely : Prop := fnExactIndexAtRow.holds Try.pinned (OpenSpec.ofChange fnExactIndexAtWrong)

/-- 'laws.FnExactPlaceAt': WHATEVER THE INPUT: true; the input reads as it did. -/
def fnExactPlaceAtSpec : ChangeSpec := { name := "fnExactPlaceAt", fn := fun _ => fun
  | [d1, d2] => { results := [.lit (.bool true)], args := [d1, d2] }
  | _ => none }
def fnExactPlaceAtRow : OpenClaim := { program := "ytmhpandbmoalaaa", sum := "399680ba79f6caa08b0bf87ae5b338ec4b1c00288bae3be75d310b342b36337e", func := "loop.example/wholetensors/laws.FnExactPlaceAt", spec := "fnExactPlaceAt", apart := false }
def FnExactPlaceAtSaid : Prop := fnExactPlaceAtRow.holds Try.pinned (OpenSpec.ofChange fnExactPlaceAtSpec)

/-- ITS FALSE NEIGHBOUR: 'it returns false'. Refute it at one input. -/
def fnExactPlaceAtWrong : ChangeSpec := { name := "fnExactPlaceAt", fn := fun _ => fun
  | [d1, d2] => { results := [.lit (.bool false)], args := [d1, d2] }
  | _ => none }
def FnExactPlaceAtWrongFalsely : Prop := fnExactPlaceAtRow.holds Try.pinned (OpenSpec.ofChange fnExactPlaceAtWrong)

/-- 'laws.FnExactJoinShapes': WHATEVER THE INPUT: true; the input reads as it did. -/
def fnExactJoinShapesSpec : ChangeSpec := { name := "fnExactJoinShapes", fn := fun _ => fun
  | [d1, d2] => { results := [.lit (.bool true)], args := [d1, d2] }
  | _ => none }
def fnExactJoinShapesRow : OpenClaim := { program := "ytmhpandbmoalaaa", sum := "399680ba79f6caa08b0bf87ae5b338ec4b1c00288bae3be75d310b342b36337e", func := "loop.example/wholetensors/laws.FnExactJoinShapes", spec := "fnExactJoinShapes", apart := false }
def FnExactJoinShapesSaid : Prop := fnExactJoinShapesRow.holds Try.pinned (OpenSpec.ofChange fnExactJoinShapesSpec)

/-- ITS FALSE NEIGHBOUR: 'it returns false'. Refute it at one input. -/
def fnExactJoinShapesWrong : ChangeSpec := { name := "fnExactJoinShapes", fn := fun _ => fun
  | [d1, d2] => { results := [.lit (.bool false)], args := [d1, d2] }
  | _ => none }
def FnExactJoinShapesWrongFalsely : Prop := fnExactJoinShapesRow.holds Try.pinned (OpenSpec.ofChange fnExactJoinShapesWrong)

/-- 'laws.FnExactSpreadIndex': WHATEVER THE INPUT: true; the input reads as it did. -/
def fnExactSpreadIndexSpec : ChangeSpec := { name := "fnExactSpreadIndex", fn := fun _ => fun
  | [d1, d2, d3] => { results := [.lit (.bool true)], args := [d1, d2, d3] }
  | _ => none }
def fnExactSpreadIndexRow : OpenClaim := { program := "ytmhpandbmoalaaa", sum := "399680ba79f6caa08b0bf87ae5b338ec4b1c00288bae3be75d310b342b36337e", func := "loop.example/wholetensors/laws.FnExactSpreadIndex", spec := "fnExactSpreadIndex", apart := false }
def FnExactSpreadIndexSaid : Prop := fnExactSpreadIndexRow.holds Try.pinned (OpenSpec.ofChange fnExactSpreadIndexSpec)

/-- ITS FALSE NEIGHBOUR: 'it returns false'. Refute it at one input. -/
def fnExactSpreadIndexWrong : ChangeSpec := { name := "fnExactSpreadIndex", fn := fun _ => fun
  | [d1, d2, d3] => { results := [.lit (.bool false)], args := [d1, d2, d3] }
  | _ => none }
def FnExactSpreadIndexWrongFalsely : Prop := fnExactSpreadIndexRow.holds Try.pinned (OpenSpec.ofChange fnExactSpreadIndexWrong)

/-- 'laws.FnExactTurnOk': WHATEVER THE INPUT: true; the input reads as it did. -/
def fnExactTurnOkSpec : ChangeSpec := { name := "fnExactTurnOk", fn := fun _ => fun
  | [d1, d2] => { results := [.lit (.bool true)], args := [d1, d2] }
  | _ => none }
def fnExactTurnOkRow : OpenClaim := { program := "ytmhpandbmoalaaa", sum := "399680ba79f6caa08b0bf87ae5b338ec4b1c00288bae3be75d310b342b36337e", func := "loop.example/wholetensors/laws.FnExactTurnOk", spec := "fnExactTurnOk", apart := false }
def FnExactTurnOkSaid : Prop := fnExactTurnOkRow.holds Try.pinned (OpenSpec.ofChange fnExactTurnOkSpec)

/-- ITS FALSE NEIGHBOUR: 'it returns false'. Refute it at one input. -/
def fnExactTurnOkWrong : ChangeSpec := { name := "fnExactTurnOk", fn := fun _ => fun
  | [d1, d2] => { results := [.lit (.bool false)], args := [d1, d2] }
  | _ => none }
def FnExactTurnOkWrongFalsely : Prop := fnExactTurnOkRow.holds Try.pinned (OpenSpec.ofChange fnExactTurnOkWrong)

/-- 'laws.FnExactTurnShape': WHATEVER THE INPUT: true; the input reads as it did. -/
def fnExactTurnShapeSpec : ChangeSpec := { name := "fnExactTurnShape", fn := fun _ => fun
  | [d1, d2] => { results := [.lit (.bool true)], args := [d1, d2] }
  | _ => none }
def fnExactTurnShapeRow : OpenClaim := { program := "ytmhpandbmoalaaa", sum := "399680ba79f6caa08b0bf87ae5b338ec4b1c00288bae3be75d310b342b36337e", func := "loop.example/wholetensors/laws.FnExactTurnShape", spec := "fnExactTurnShape", apart := false }
def FnExactTurnShapeSaid : Prop := fnExactTurnShapeRow.holds Try.pinned (OpenSpec.ofChange fnExactTurnShapeSpec)

/-- ITS FALSE NEIGHBOUR: 'it returns false'. Refute it at one input. -/
def fnExactTurnShapeWrong : ChangeSpec := { name := "fnExactTurnShape", fn := fun _ => fun
  | [d1, d2] => { results := [.lit (.bool false)], args := [d1, d2] }
  | _ => none }
def FnExactTurnShapeWrongFalsely : Prop := fnExactTurnShapeRow.holds Try.pinned (OpenSpec.ofChange fnExactTurnShapeWrong)

/-- 'laws.FnExactBackTurn': WHATEVER THE INPUT: true; the input reads as it did. -/
def fnExactBackTurnSpec : ChangeSpec := { name := "fnExactBackTurn", fn := fun _ => fun
  | [d] => { results := [.lit (.bool true)], args := [d] }
  | _ => none }
def fnExactBackTurnRow : OpenClaim := { program := "ytmhpandbmoalaaa", sum := "399680ba79f6caa08b0bf87ae5b338ec4b1c00288bae3be75d310b342b36337e", func := "loop.example/wholetensors/laws.FnExactBackTurn", spec := "fnExactBackTurn", apart := false }
def FnExactBackTurnSaid : Prop := fnExactBackTurnRow.holds Try.pinned (OpenSpec.ofChange fnExactBackTurnSpec)

/-- ITS FALSE NEIGHBOUR: 'it returns false'. Refute it at one input. -/
def fnExactBackTurnWrong : ChangeSpec := { name := "fnExactBackTurn", fn := fun _ => fun
  | [d] => { results := [.lit (.bool false)], args := [d] }
  | _ => none }
def FnExactBackTurnWrongFalsely : Prop := fnExactBackTurnRow.holds Try.pinned (OpenSpec.ofChange fnExactBackTurnWrong)

/- THE SECOND FORM. 'bulk': how many values and letters a reading holds, each counted each time it is reached (what is shared counts as often as it is met; a slice's spare places count too). A statement '..UptoSaid' is the law's where the arguments, and the package variables that the reading takes, are together of bulk at most 1048576: NARROWER than '..Said'. Prove '..Said' where nothing that the law and all that it calls make is longer than what came in: it says more and counts as full. Else prove '..UptoSaid'. A law counts once. -/
mutual
def uptoBulk {H : Type} : DataW H → Nat
  | .lit (.string bytes) => bytes.length + 1
  | .lit _ => 1
  | .nil => 1
  | .ptr d => uptoBulk d + 1
  | .slice elems spare => uptoBulkAll elems + uptoBulkAll spare + 1
  | .agg parts => uptoBulkAll parts + 1
  | .iface _ d => uptoBulk d + 1
  | .map entries => uptoBulkEntries entries + 1
  | .held _ => 1
def uptoBulkAll {H : Type} : List (DataW H) → Nat
  | [] => 0
  | d :: r => uptoBulk d + uptoBulkAll r
def uptoBulkEntries {H : Type} : List (Lit × DataW H) → Nat
  | [] => 0
  | x :: r => uptoBulkEntry x + uptoBulkEntries r
def uptoBulkEntry {H : Type} : Lit × DataW H → Nat
  | (.string bytes, d) => bytes.length + uptoBulk d + 1
  | (_, d) => uptoBulk d + 1
 end
def uptoSmall : (H : Type) → List (DataW H) → Bool := fun _ ds => decide (uptoBulkAll ds ≤ 1048576)
def OpenSpec.upto (s : _root_.Go.ChangeSpec) : _root_.Go.OpenSpec := { _root_.Go.OpenSpec.ofChange s with cond := some uptoSmall }

/-- 'laws.FnIndexAt', WHERE WHAT IT READS IS OF BULK AT MOST 1048576: true; the input reads as it did. -/
def fnIndexAtUptoRow : OpenClaim := { program := "ytmhpandbmoalaaa", sum := "399680ba79f6caa08b0bf87ae5b338ec4b1c00288bae3be75d310b342b36337e", func := "loop.example/wholetensors/laws.FnIndexAt", spec := "fnIndexAt", apart := false, narrowed := true }
def FnIndexAtUptoSaid : Prop := fnIndexAtUptoRow.holds Try.pinned (OpenSpec.upto fnIndexAtSpec)

/-- 'laws.FnSpread', WHERE WHAT IT READS IS OF BULK AT MOST 1048576: true; the input reads as it did. -/
def fnSpreadUptoRow : OpenClaim := { program := "ytmhpandbmoalaaa", sum := "399680ba79f6caa08b0bf87ae5b338ec4b1c00288bae3be75d310b342b36337e", func := "loop.example/wholetensors/laws.FnSpread", spec := "fnSpread", apart := false, narrowed := true }
def FnSpreadUptoSaid : Prop := fnSpreadUptoRow.holds Try.pinned (OpenSpec.upto fnSpreadSpec)

/-- 'laws.FnSpreadIndex', WHERE WHAT IT READS IS OF BULK AT MOST 1048576: true; the input reads as it did. -/
def fnSpreadIndexUptoRow : OpenClaim := { program := "ytmhpandbmoalaaa", sum := "399680ba79f6caa08b0bf87ae5b338ec4b1c00288bae3be75d310b342b36337e", func := "loop.example/wholetensors/laws.FnSpreadIndex", spec := "fnSpreadIndex", apart := false, narrowed := true }
def FnSpreadIndexUptoSaid : Prop := fnSpreadIndexUptoRow.holds Try.pinned (OpenSpec.upto fnSpreadIndexSpec)

/-- 'laws.FnTurns', WHERE WHAT IT READS IS OF BULK AT MOST 1048576: true; the input reads as it did. -/
def fnTurnsUptoRow : OpenClaim := { program := "ytmhpandbmoalaaa", sum := "399680ba79f6caa08b0bf87ae5b338ec4b1c00288bae3be75d310b342b36337e", func := "loop.example/wholetensors/laws.FnTurns", spec := "fnTurns", apart := false, narrowed := true }
def FnTurnsUptoSaid : Prop := fnTurnsUptoRow.holds Try.pinned (OpenSpec.upto fnTurnsSpec)

/-- 'laws.FnExactShapeOk', WHERE WHAT IT READS IS OF BULK AT MOST 1048576: true; the input reads as it did. -/
def fnExactShapeOkUptoRow : OpenClaim := { program := "ytmhpandbmoalaaa", sum := "399680ba79f6caa08b0bf87ae5b338ec4b1c00288bae3be75d310b342b36337e", func := "loop.example/wholetensors/laws.FnExactShapeOk", spec := "fnExactShapeOk", apart := false, narrowed := true }
def FnExactShapeOkUptoSaid : Prop := fnExactShapeOkUptoRow.holds Try.pinned (OpenSpec.upto fnExactShapeOkSpec)

/-- 'laws.FnExactCountOf', WHERE WHAT IT READS IS OF BULK AT MOST 1048576: true; the input reads as it did. -/
def fnExactCountOfUptoRow : OpenClaim := { program := "ytmhpandbmoalaaa", sum := "399680ba79f6caa08b0bf87ae5b338ec4b1c00288bae3be75d310b342b36337e", func := "loop.example/wholetensors/laws.FnExactCountOf", spec := "fnExactCountOf", apart := false, narrowed := true }
def FnExactCountOfUptoSaid : Prop := fnExactCountOfUptoRow.holds Try.pinned (OpenSpec.upto fnExactCountOfSpec)

/-- 'laws.FnExactStridesOf', WHERE WHAT IT READS IS OF BULK AT MOST 1048576: true; the input reads as it did. -/
def fnExactStridesOfUptoRow : OpenClaim := { program := "ytmhpandbmoalaaa", sum := "399680ba79f6caa08b0bf87ae5b338ec4b1c00288bae3be75d310b342b36337e", func := "loop.example/wholetensors/laws.FnExactStridesOf", spec := "fnExactStridesOf", apart := false, narrowed := true }
def FnExactStridesOfUptoSaid : Prop := fnExactStridesOfUptoRow.holds Try.pinned (OpenSpec.upto fnExactStridesOfSpec)

/-- 'laws.FnExactIndexAt', WHERE WHAT IT READS IS OF BULK AT MOST 1048576: true; the input reads as it did. -/
def fnExactIndexAtUptoRow : OpenClaim := { program := "ytmhpandbmoalaaa", sum := "399680ba79f6caa08b0bf87ae5b338ec4b1c00288bae3be75d310b342b36337e", func := "loop.example/wholetensors/laws.FnExactIndexAt", spec := "fnExactIndexAt", apart := false, narrowed := true }
def FnExactIndexAtUptoSaid : Prop := fnExactIndexAtUptoRow.holds Try.pinned (OpenSpec.upto fnExactIndexAtSpec)

/-- 'laws.FnExactPlaceAt', WHERE WHAT IT READS IS OF BULK AT MOST 1048576: true; the input reads as it did. -/
def fnExactPlaceAtUptoRow : OpenClaim := { program := "ytmhpandbmoalaaa", sum := "399680ba79f6caa08b0bf87ae5b338ec4b1c00288bae3be75d310b342b36337e", func := "loop.example/wholetensors/laws.FnExactPlaceAt", spec := "fnExactPlaceAt", apart := false, narrowed := true }
def FnExactPlaceAtUptoSaid : Prop := fnExactPlaceAtUptoRow.holds Try.pinned (OpenSpec.upto fnExactPlaceAtSpec)

/-- 'laws.FnExactJoinShapes', WHERE WHAT IT READS IS OF BULK AT MOST 1048576: true; the input reads as it did. -/
def fnExactJoinShapesUptoRow : OpenClaim := { program := "ytmhpandbmoalaaa", sum := "399680ba79f6caa08b0bf87ae5b338ec4b1c00288bae3be75d310b342b36337e", func := "loop.example/wholetensors/laws.FnExactJoinShapes", spec := "fnExactJoinShapes", apart := false, narrowed := true }
def FnExactJoinShapesUptoSaid : Prop := fnExactJoinShapesUptoRow.holds Try.pinned (OpenSpec.upto fnExactJoinShapesSpec)

/-- 'laws.FnExactSpreadIndex', WHERE WHAT IT READS IS OF BULK AT MOST 1048576: true; the input reads as it did. -/
def fnExactSpreadIndexUptoRow : OpenClaim := { program := "ytmhpandbmoalaaa", sum := "399680ba79f6caa08b0bf87ae5b338ec4b1c00288bae3be75d310b342b36337e", func := "loop.example/wholetensors/laws.FnExactSpreadIndex", spec := "fnExactSpreadIndex", apart := false, narrowed := true }
def FnExactSpreadIndexUptoSaid : Prop := fnExactSpreadIndexUptoRow.holds Try.pinned (OpenSpec.upto fnExactSpreadIndexSpec)

/-- 'laws.FnExactTurnOk', WHERE WHAT IT READS IS OF BULK AT MOST 1048576: true; the input reads as it did. -/
def fnExactTurnOkUptoRow : OpenClaim := { program := "ytmhpandbmoalaaa", sum := "399680ba79f6caa08b0bf87ae5b338ec4b1c00288bae3be75d310b342b36337e", func := "loop.example/wholetensors/laws.FnExactTurnOk", spec := "fnExactTurnOk", apart := false, narrowed := true }
def FnExactTurnOkUptoSaid : Prop := fnExactTurnOkUptoRow.holds Try.pinned (OpenSpec.upto fnExactTurnOkSpec)

/-- 'laws.FnExactTurnShape', WHERE WHAT IT READS IS OF BULK AT MOST 1048576: true; the input reads as it did. -/
def fnExactTurnShapeUptoRow : OpenClaim := { program := "ytmhpandbmoalaaa", sum := "399680ba79f6caa08b0bf87ae5b338ec4b1c00288bae3be75d310b342b36337e", func := "loop.example/wholetensors/laws.FnExactTurnShape", spec := "fnExactTurnShape", apart := false, narrowed := true }
def FnExactTurnShapeUptoSaid : Prop := fnExactTurnShapeUptoRow.holds Try.pinned (OpenSpec.upto fnExactTurnShapeSpec)

/-- 'laws.FnExactBackTurn', WHERE WHAT IT READS IS OF BULK AT MOST 1048576: true; the input reads as it did. -/
def fnExactBackTurnUptoRow : OpenClaim := { program := "ytmhpandbmoalaaa", sum := "399680ba79f6caa08b0bf87ae5b338ec4b1c00288bae3be75d310b342b36337e", func := "loop.example/wholetensors/laws.FnExactBackTurn", spec := "fnExactBackTurn", apart := false, narrowed := true }
def FnExactBackTurnUptoSaid : Prop := fnExactBackTurnUptoRow.holds Try.pinned (OpenSpec.upto fnExactBackTurnSpec)

end Rows
end Go.Proofs.Ytmhpandbmoalaaa
