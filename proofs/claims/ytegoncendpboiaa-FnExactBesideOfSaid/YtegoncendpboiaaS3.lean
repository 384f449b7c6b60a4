/- Facts of the program about tensors. -/
import Derived.Test.YtegoncendpboiaaP3
import Derived.Test.YtegoncendpboiaaAmU
namespace Go.Proofs.Ytegoncendpboiaa
set_option maxRecDepth 20000
open Go.RowKit Go.Am Go.WideShapes Go.ChangeShapes
theorem argT {av : AV} (h : ArgR Try.prog 24 av) : ∃ xs zs : List Int, av = .agg [.sl 1 xs.length (xs.map (.int .i64)), .sl 1 zs.length (zs.map (.int .i64))] := by
  obtain ⟨xs, zs, e, _, _⟩ := argRPair (t1 := 22) (e := 3) (by kernel_rfl) uInts uInt (by kernel_rfl) (by kernel_rfl) h
  exact ⟨xs, zs, e⟩
theorem argL {av : AV} (h : ArgR Try.prog 22 av) : ∃ zs : List Int, av = .sl 1 zs.length (zs.map (.int .i64)) := by
  obtain ⟨zs, e, _⟩ := argRInts uInts uInt h
  exact ⟨zs, e⟩
theorem argI {av : AV} (h : ArgR Try.prog 3 av) : ∃ n : Int, av = .int .i64 n ∧ (Lit.int .i64 n).wf = true := argRInt uInt h
theorem avs4 {avs : List AV} {p : Nat → AV → Prop} (hl : avs.length = 4) (h : ∀ j av, avs[j]? = some av → p j av) : ∃ a b c d, avs = [a, b, c, d] ∧ p 0 a ∧ p 1 b ∧ p 2 c ∧ p 3 d := by
  match avs, hl with
  | [a, b, c, d], _ => exact ⟨a, b, c, d, rfl, h 0 a rfl, h 1 b rfl, h 2 c rfl, h 3 d rfl⟩
end Go.Proofs.Ytegoncendpboiaa
