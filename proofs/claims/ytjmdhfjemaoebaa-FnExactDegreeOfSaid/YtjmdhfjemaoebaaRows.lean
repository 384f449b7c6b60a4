/-
  No cell of these rows narrows 'for every input' (looked for: loops, veiled, ifaces, maps, wideKeys, modest, calm, conditions, laid).
  DERIVED. THE GIVEN ROWS OF THIS SEAT. 8 by the template 'for every input the law returns true; each argument reads behind the call as it read before'; 0 by the template 'total and deterministic' (their statements: YtjmdhfjemaoebaaTotals.lean).
  GIVEN WITH THE SEED: the statements are not yours to turn. If you find one false, say at which input.
  Laid BY PROGRAM, IN A SANDBOX (cutbox-rows.mjs): the forced cells as the released guide's own fill.sh prints them over the translation e2b44adcab5b6f23… (all of the seat's roots in one cut). By AI agents, Wed Nov 11 2026. No macro, syntax, notation, axiom, sorry.
-/
import Derived.Test.YtjmdhfjemaoebaaChecked
import GoSem.Claim
import GoSem.ClaimJoined
import GoSem.ClaimMapViews
import Derived.JoinedTies
import Derived.KernelRfl
namespace Go.Proofs.Ytjmdhfjemaoebaa
/- THE CELL 'sum', in the pinned program and in every row, IS THE sha256 OF THE DUMP (.gsa) THAT YtjmdhfjemaoebaaProg.lean LOADS. Nothing in Lean hashes anything: it is a label: what it is worth is what the hold of that sum in a sandbox is worth. -/
noncomputable def Try.pinned : Pinned := { name := "ytjmdhfjemaoebaa", sum := "e2b44adcab5b6f23da6ef26e65eb861dbaa89efce53e5b1208f58972357a3e74", checked := Try.checked }
namespace Rows
def none {H : Type} : Left H := { results := [], args := [] }

/-- 'laws.FnExactDegreeOf': WHATEVER THE INPUT: true; the input reads as it did. -/
def fnExactDegreeOfSpec : ChangeSpec := { name := "fnExactDegreeOf", fn := fun _ => fun
  | [d] => { results := [.lit (.bool true)], args := [d] }
  | _ => none }
def fnExactDegreeOfRow : OpenClaim := { program := "ytjmdhfjemaoebaa", sum := "e2b44adcab5b6f23da6ef26e65eb861dbaa89efce53e5b1208f58972357a3e74", func := "loop.example/wholetensors/laws.FnExactDegreeOf", spec := "fnExactDegreeOf", apart := false }
def FnExactDegreeOfSaid : Prop := fnExactDegreeOfRow.holds Try.pinned (OpenSpec.ofChange fnExactDegreeOfSpec)

/-- ITS FALSE NEIGHBOUR: 'it returns false'. Refute it at one input. -/
def fnExactDegreeOfWrong : ChangeSpec := { name := "fnExactDegreeOf", fn := fun _ => fun
  | [d] => { results := [.lit (.bool false)], args := [d] }
  | _ => none }
def FnExactDegreeOfWrongFalsely : Prop := fnExactDegreeOfRow.holds Try.pinned (OpenSpec.ofChange fnExactDegreeOfWrong)

/-- 'laws.FnExactDotOf': WHATEVER THE INPUT: true; the input reads as it did. -/
def fnExactDotOfSpec : ChangeSpec := { name := "fnExactDotOf", fn := fun _ => fun
  | [d1, d2] => { results := [.lit (.bool true)], args := [d1, d2] }
  | _ => none }
def fnExactDotOfRow : OpenClaim := { program := "ytjmdhfjemaoebaa", sum := "e2b44adcab5b6f23da6ef26e65eb861dbaa89efce53e5b1208f58972357a3e74", func := "loop.example/wholetensors/laws.FnExactDotOf", spec := "fnExactDotOf", apart := false }
def FnExactDotOfSaid : Prop := fnExactDotOfRow.holds Try.pinned (OpenSpec.ofChange fnExactDotOfSpec)

/-- ITS FALSE NEIGHBOUR: 'it returns false'. Refute it at one input. -/
def fnExactDotOfWrong : ChangeSpec := { name := "fnExactDotOf", fn := fun _ => fun
  | [d1, d2] => { results := [.lit (.bool false)], args := [d1, d2] }
  | _ => none }
def FnExactDotOfWrongFalsely : Prop := fnExactDotOfRow.holds Try.pinned (OpenSpec.ofChange fnExactDotOfWrong)

/-- 'laws.FnExactUnspreadOf': WHATEVER THE INPUT: true; the input reads as it did. -/
def fnExactUnspreadOfSpec : ChangeSpec := { name := "fnExactUnspreadOf", fn := fun _ => fun
  | [d1, d2] => { results := [.lit (.bool true)], args := [d1, d2] }
  | _ => none }
def fnExactUnspreadOfRow : OpenClaim := { program := "ytjmdhfjemaoebaa", sum := "e2b44adcab5b6f23da6ef26e65eb861dbaa89efce53e5b1208f58972357a3e74", func := "loop.example/wholetensors/laws.FnExactUnspreadOf", spec := "fnExactUnspreadOf", apart := false }
def FnExactUnspreadOfSaid : Prop := fnExactUnspreadOfRow.holds Try.pinned (OpenSpec.ofChange fnExactUnspreadOfSpec)

/-- ITS FALSE NEIGHBOUR: 'it returns false'. Refute it at one input. -/
def fnExactUnspreadOfWrong : ChangeSpec := { name := "fnExactUnspreadOf", fn := fun _ => fun
  | [d1, d2] => { results := [.lit (.bool false)], args := [d1, d2] }
  | _ => none }
def FnExactUnspreadOfWrongFalsely : Prop := fnExactUnspreadOfRow.holds Try.pinned (OpenSpec.ofChange fnExactUnspreadOfWrong)

/-- 'laws.FnExactShiftOf': WHATEVER THE INPUT: true; the input reads as it did. -/
def fnExactShiftOfSpec : ChangeSpec := { name := "fnExactShiftOf", fn := fun _ => fun
  | [d1, d2, d3] => { results := [.lit (.bool true)], args := [d1, d2, d3] }
  | _ => none }
def fnExactShiftOfRow : OpenClaim := { program := "ytjmdhfjemaoebaa", sum := "e2b44adcab5b6f23da6ef26e65eb861dbaa89efce53e5b1208f58972357a3e74", func := "loop.example/wholetensors/laws.FnExactShiftOf", spec := "fnExactShiftOf", apart := false }
def FnExactShiftOfSaid : Prop := fnExactShiftOfRow.holds Try.pinned (OpenSpec.ofChange fnExactShiftOfSpec)

/-- ITS FALSE NEIGHBOUR: 'it returns false'. Refute it at one input. -/
def fnExactShiftOfWrong : ChangeSpec := { name := "fnExactShiftOf", fn := fun _ => fun
  | [d1, d2, d3] => { results := [.lit (.bool false)], args := [d1, d2, d3] }
  | _ => none }
def FnExactShiftOfWrongFalsely : Prop := fnExactShiftOfRow.holds Try.pinned (OpenSpec.ofChange fnExactShiftOfWrong)

/-- 'laws.FnExactValueBy': WHATEVER THE INPUT: true; the input reads as it did. -/
def fnExactValueBySpec : ChangeSpec := { name := "fnExactValueBy", fn := fun _ => fun
  | [d1, d2, d3] => { results := [.lit (.bool true)], args := [d1, d2, d3] }
  | _ => none }
def fnExactValueByRow : OpenClaim := { program := "ytjmdhfjemaoebaa", sum := "e2b44adcab5b6f23da6ef26e65eb861dbaa89efce53e5b1208f58972357a3e74", func := "loop.example/wholetensors/laws.FnExactValueBy", spec := "fnExactValueBy", apart := false }
def FnExactValueBySaid : Prop := fnExactValueByRow.holds Try.pinned (OpenSpec.ofChange fnExactValueBySpec)

/-- ITS FALSE NEIGHBOUR: 'it returns false'. Refute it at one input. -/
def fnExactValueByWrong : ChangeSpec := { name := "fnExactValueBy", fn := fun _ => fun
  | [d1, d2, d3] => { results := [.lit (.bool false)], args := [d1, d2, d3] }
  | _ => none }
def FnExactValueByWrongFalsely : Prop := fnExactValueByRow.holds Try.pinned (OpenSpec.ofChange fnExactValueByWrong)

/-- 'laws.FnExactTwoOf': WHATEVER THE INPUT: true; the input reads as it did. -/
def fnExactTwoOfSpec : ChangeSpec := { name := "fnExactTwoOf", fn := fun _ => fun
  | [d1, d2, d3] => { results := [.lit (.bool true)], args := [d1, d2, d3] }
  | _ => none }
def fnExactTwoOfRow : OpenClaim := { program := "ytjmdhfjemaoebaa", sum := "e2b44adcab5b6f23da6ef26e65eb861dbaa89efce53e5b1208f58972357a3e74", func := "loop.example/wholetensors/laws.FnExactTwoOf", spec := "fnExactTwoOf", apart := false }
def FnExactTwoOfSaid : Prop := fnExactTwoOfRow.holds Try.pinned (OpenSpec.ofChange fnExactTwoOfSpec)

/-- ITS FALSE NEIGHBOUR: 'it returns false'. Refute it at one input. -/
def fnExactTwoOfWrong : ChangeSpec := { name := "fnExactTwoOf", fn := fun _ => fun
  | [d1, d2, d3] => { results := [.lit (.bool false)], args := [d1, d2, d3] }
  | _ => none }
def FnExactTwoOfWrongFalsely : Prop := fnExactTwoOfRow.holds Try.pinned (OpenSpec.ofChange fnExactTwoOfWrong)

/-- 'laws.FnExactNegOf': WHATEVER THE INPUT: true; the input reads as it did. -/
def fnExactNegOfSpec : ChangeSpec := { name := "fnExactNegOf", fn := fun _ => fun
  | [d] => { results := [.lit (.bool true)], args := [d] }
  | _ => none }
def fnExactNegOfRow : OpenClaim := { program := "ytjmdhfjemaoebaa", sum := "e2b44adcab5b6f23da6ef26e65eb861dbaa89efce53e5b1208f58972357a3e74", func := "loop.example/wholetensors/laws.FnExactNegOf", spec := "fnExactNegOf", apart := false }
def FnExactNegOfSaid : Prop := fnExactNegOfRow.holds Try.pinned (OpenSpec.ofChange fnExactNegOfSpec)

/-- ITS FALSE NEIGHBOUR: 'it returns false'. Refute it at one input. -/
def fnExactNegOfWrong : ChangeSpec := { name := "fnExactNegOf", fn := fun _ => fun
  | [d] => { results := [.lit (.bool false)], args := [d] }
  | _ => none }
def FnExactNegOfWrongFalsely : Prop := fnExactNegOfRow.holds Try.pinned (OpenSpec.ofChange fnExactNegOfWrong)

/-- 'laws.FnExactProductOf': WHATEVER THE INPUT: true; the input reads as it did. -/
def fnExactProductOfSpec : ChangeSpec := { name := "fnExactProductOf", fn := fun _ => fun
  | [d1, d2] => { results := [.lit (.bool true)], args := [d1, d2] }
  | _ => none }
def fnExactProductOfRow : OpenClaim := { program := "ytjmdhfjemaoebaa", sum := "e2b44adcab5b6f23da6ef26e65eb861dbaa89efce53e5b1208f58972357a3e74", func := "loop.example/wholetensors/laws.FnExactProductOf", spec := "fnExactProductOf", apart := false }
def FnExactProductOfSaid : Prop := fnExactProductOfRow.holds Try.pinned (OpenSpec.ofChange fnExactProductOfSpec)

/-- ITS FALSE NEIGHBOUR: 'it returns false'. Refute it at one input. -/
def fnExactProductOfWrong : ChangeSpec := { name := "fnExactProductOf", fn := fun _ => fun
  | [d1, d2] => { results := [.lit (.bool false)], args := [d1, d2] }
  | _ => none }
def FnExactProductOfWrongFalsely : Prop := fnExactProductOfRow.holds Try.pinned (OpenSpec.ofChange fnExactProductOfWrong)

/- THE SECOND FORM. 'bulk': how many values and letters a reading holds, each counted each time it is reached (what is shared counts as often as it is met; a slice's spare places count too). A statement '..UptoSaid' is the law's where the arguments, and the package variables that the reading takes, are together of bulk at most 1048576: NARROWER than '..Said'. Prove '..Said' where nothing that the law and all that it calls make is longer than what came in: it says more and counts as full. Else prove '..UptoSaid'. A law counts once. -/
mutual
def uptoBulk {H : Type} : DataW H → Nat
  | .lit (.string bytes) => bytes.length + 1
  | .lit _ => 1
  | .nil => 1
  | .ptr d => uptoBulk d + 1
  | .slice elems spare => uptoBulkAll elems + uptoBulkAll spare + 1
  | .agg parts => uptoBulkAll parts + 1
  | .iface _ d => uptoBulk d + 1
  | .map entries => uptoBulkEntries entries + 1
  | .held _ => 1
def uptoBulkAll {H : Type} : List (DataW H) → Nat
  | [] => 0
  | d :: r => uptoBulk d + uptoBulkAll r
def uptoBulkEntries {H : Type} : List (Lit × DataW H) → Nat
  | [] => 0
  | x :: r => uptoBulkEntry x + uptoBulkEntries r
def uptoBulkEntry {H : Type} : Lit × DataW H → Nat
  | (.string bytes, d) => bytes.length + uptoBulk d + 1
  | (_, d) => uptoBulk d + 1
 end
def uptoSmall : (H : Type) → List (DataW H) → Bool := fun _ ds => decide (uptoBulkAll ds ≤ 1048576)
def OpenSpec.upto (s : _root_.Go.ChangeSpec) : _root_.Go.OpenSpec := { _root_.Go.OpenSpec.ofChange s with cond := some uptoSmall }

/-- 'laws.FnExactDegreeOf', WHERE WHAT IT READS IS OF BULK AT MOST 1048576: true; the input reads as it did. -/
def fnExactDegreeOfUptoRow : OpenClaim := { program := "ytjmdhfjemaoebaa", sum := "e2b44adcab5b6f23da6ef26e65eb861dbaa89efce53e5b1208f58972357a3e74", func := "loop.example/wholetensors/laws.FnExactDegreeOf", spec := "fnExactDegreeOf", apart := false, narrowed := true }
def FnExactDegreeOfUptoSaid : Prop := fnExactDegreeOfUptoRow.holds Try.pinned (OpenSpec.upto fnExactDegreeOfSpec)

/-- 'laws.FnExactDotOf', WHERE WHAT IT READS IS OF BULK AT MOST 1048576: true; the input reads as it did. -/
def fnExactDotOfUptoRow : OpenClaim := { program := "ytjmdhfjemaoebaa", sum := "e2b44adcab5b6f23da6ef26e65eb861dbaa89efce53e5b1208f58972357a3e74", func := "loop.example/wholetensors/laws.FnExactDotOf", spec := "fnExactDotOf", apart := false, narrowed := true }
def FnExactDotOfUptoSaid : Prop := fnExactDotOfUptoRow.holds Try.pinned (OpenSpec.upto fnExactDotOfSpec)

/-- 'laws.FnExactUnspreadOf', WHERE WHAT IT READS IS OF BULK AT MOST 1048576: true; the input reads as it did. -/
def fnExactUnspreadOfUptoRow : OpenClaim := { program := "ytjmdhfjemaoebaa", sum := "e2b44adcab5b6f23da6ef26e65eb861dbaa89efce53e5b1208f58972357a3e74", func := "loop.example/wholetensors/laws.FnExactUnspreadOf", spec := "fnExactUnspreadOf", apart := false, narrowed := true }
def FnExactUnspreadOfUptoSaid : Prop := fnExactUnspreadOfUptoRow.holds Try.pinned (OpenSpec.upto fnExactUnspreadOfSpec)

/-- 'laws.FnExactShiftOf', WHERE WHAT IT READS IS OF BULK AT MOST 1048576: true; the input reads as it did. -/
def fnExactShiftOfUptoRow : OpenClaim := { program := "ytjmdhfjemaoebaa", sum := "e2b44adcab5b6f23da6ef26e65eb861dbaa89efce53e5b1208f58972357a3e74", func := "loop.example/wholetensors/laws.FnExactShiftOf", spec := "fnExactShiftOf", apart := false, narrowed := true }
def FnExactShiftOfUptoSaid : Prop := fnExactShiftOfUptoRow.holds Try.pinned (OpenSpec.upto fnExactShiftOfSpec)

/-- 'laws.FnExactValueBy', WHERE WHAT IT READS IS OF BULK AT MOST 1048576: true; the input reads as it did. -/
def fnExactValueByUptoRow : OpenClaim := { program := "ytjmdhfjemaoebaa", sum := "e2b44adcab5b6f23da6ef26e65eb861dbaa89efce53e5b1208f58972357a3e74", func := "loop.example/wholetensors/laws.FnExactValueBy", spec := "fnExactValueBy", apart := false, narrowed := true }
def FnExactValueByUptoSaid : Prop := fnExactValueByUptoRow.holds Try.pinned (OpenSpec.upto fnExactValueBySpec)

/-- 'laws.FnExactTwoOf', WHERE WHAT IT READS IS OF BULK AT MOST 1048576: true; the input reads as it did. -/
def fnExactTwoOfUptoRow : OpenClaim := { program := "ytjmdhfjemaoebaa", sum := "e2b44adcab5b6f23da6ef26e65eb861dbaa89efce53e5b1208f58972357a3e74", func := "loop.example/wholetensors/laws.FnExactTwoOf", spec := "fnExactTwoOf", apart := false, narrowed := true }
def FnExactTwoOfUptoSaid : Prop := fnExactTwoOfUptoRow.holds Try.pinned (OpenSpec.upto fnExactTwoOfSpec)

/-- 'laws.FnExactNegOf', WHERE WHAT IT READS IS OF BULK AT MOST 1048576: true; the input reads as it did. -/
def fnExactNegOfUptoRow : OpenClaim := { program := "ytjmdhfjemaoebaa", sum := "e2b44adcab5b6f23da6ef26e65eb861dbaa89efce53e5b1208f58972357a3e74", func := "loop.example/wholetensors/laws.FnExactNegOf", spec := "fnExactNegOf", apart := false, narrowed := true }
def FnExactNegOfUptoSaid : Prop := fnExactNegOfUptoRow.holds Try.pinned (OpenSpec.upto fnExactNegOfSpec)

/-- 'laws.FnExactProductOf', WHERE WHAT IT READS IS OF BULK AT MOST 1048576: true; the input reads as it did. -/
def fnExactProductOfUptoRow : OpenClaim := { program := "ytjmdhfjemaoebaa", sum := "e2b44adcab5b6f23da6ef26e65eb861dbaa89efce53e5b1208f58972357a3e74", func := "loop.example/wholetensors/laws.FnExactProductOf", spec := "fnExactProductOf", apart := false, narrowed := true }
def FnExactProductOfUptoSaid : Prop := fnExactProductOfUptoRow.holds Try.pinned (OpenSpec.upto fnExactProductOfSpec)

end Rows
end Go.Proofs.Ytjmdhfjemaoebaa
