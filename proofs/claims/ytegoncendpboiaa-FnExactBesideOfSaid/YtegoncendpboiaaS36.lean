/- What is reckoned over all shapes that lie beside each other along an axis. -/
import Derived.Test.YtegoncendpboiaaS15
namespace Go.Proofs.Ytegoncendpboiaa
set_option maxRecDepth 20000
open Go.RowKit Go.Am

def bsSh (xs : List Int) (a : Nat) (p : Int) : List Int := xs.set a (xs.getD a 0 + p)
def bsStp (xs : List Int) (a : Nat) : Int := (strides xs).getD a 0
def bsA (xs : List Int) (a : Nat) : Nat := (bsStp xs a * xs.getD a 0).toNat
def bsB (xs : List Int) (a : Nat) (p : Int) : Nat := (bsStp xs a * p).toNat
def bsN (xs : List Int) (a : Nat) : Nat := (cntTo xs xs.length).toNat / bsA xs a
def bsRef (xs : List Int) (a : Nat) (p : Int) (i : Nat) : Bool × Int :=
  if (places (bsSh xs a p) i).getD a 0 < xs.getD a 0 then (true, idxTo xs (places (bsSh xs a p) i) xs.length)
  else (false, idxTo (xs.set a p) ((places (bsSh xs a p) i).set a ((places (bsSh xs a p) i).getD a 0 - xs.getD a 0)) xs.length)
def bsTurn (A B n : Nat) : List (Bool × Int) := (List.range n).flatMap fun i => ((List.range A).map fun j => (true, ((i * A + j : Nat) : Int))) ++ ((List.range B).map fun j => (false, ((i * B + j : Nat) : Int)))
def bsIn (xs : List Int) (a : Nat) (p : Int) (r : Bool × Int) : Bool := decide (0 ≤ r.2) && (if r.1 = true then decide (r.2 < cntTo xs xs.length) else decide (r.2 < cntTo (xs.set a p) (xs.set a p).length))
def bsGood (xs : List Int) (a : Nat) (p : Int) : Bool := shapeOk (bsSh xs a p) && ((bsTurn (bsA xs a) (bsB xs a p) (bsN xs a) == (List.range (cntTo (bsSh xs a p) (bsSh xs a p).length).toNat).map (bsRef xs a p)) &&
  (List.range (cntTo (bsSh xs a p) (bsSh xs a p).length).toNat).all fun i => bsIn xs a p (bsRef xs a p i))
def bsOne (xs : List Int) (a : Nat) (p : Int) : Bool := (cntTo xs xs.length == ((bsN xs a * bsA xs a : Nat) : Int)) && ((cntTo (xs.set a p) (xs.set a p).length == ((bsN xs a * bsB xs a p : Nat) : Int)) && (decide (1 ≤ bsA xs a ∧ bsA xs a ≤ 64 ∧ 1 ≤ bsB xs a p ∧ bsB xs a p ≤ 64) &&
  ((bsStp xs a * xs.getD a 0 == (bsA xs a : Int)) && ((bsStp xs a * p == (bsB xs a p : Int)) && (decide (4 < xs.getD a 0 + p) || bsGood xs a p)))))
def bsChk (xs : List Int) : Bool := (List.range xs.length).all fun a => sizes.all fun p => bsOne xs a p
theorem bsChk_2 : shapes2.all bsChk = true := by kernel_rfl
theorem bsChk_31 : (shapes3 1).all bsChk = true := by kernel_rfl
theorem bsChk_32 : (shapes3 2).all bsChk = true := by kernel_rfl
theorem bsChk_33 : (shapes3 3).all bsChk = true := by kernel_rfl
theorem bsChk_34 : (shapes3 4).all bsChk = true := by kernel_rfl
structure BsFacts (xs : List Int) (a : Nat) (p : Int) : Prop where
  cx : cntTo xs xs.length = ((bsN xs a * bsA xs a : Nat) : Int)
  cp : cntTo (xs.set a p) (xs.set a p).length = ((bsN xs a * bsB xs a p : Nat) : Int)
  ab : 1 ≤ bsA xs a ∧ bsA xs a ≤ 64 ∧ 1 ≤ bsB xs a p ∧ bsB xs a p ≤ 64
  ea : bsStp xs a * xs.getD a 0 = (bsA xs a : Int)
  eb : bsStp xs a * p = (bsB xs a p : Int)
  good : xs.getD a 0 + p ≤ 4 → shapeOk (bsSh xs a p) = true ∧ bsTurn (bsA xs a) (bsB xs a p) (bsN xs a) = (List.range (cntTo (bsSh xs a p) (bsSh xs a p).length).toNat).map (bsRef xs a p) ∧
    ∀ i : Nat, (i : Int) < cntTo (bsSh xs a p) (bsSh xs a p).length → bsIn xs a p (bsRef xs a p i) = true
theorem bs_facts {xs : List Int} (hs : shapeOk xs = true) {a : Nat} (ha : a < xs.length) {p : Int} (hp : 1 ≤ p ∧ p ≤ 4) : BsFacts xs a p := by
  have h := shape_all bsChk_2 bsChk_31 bsChk_32 bsChk_33 bsChk_34 hs
  unfold bsChk at h
  simp only [List.all_eq_true] at h
  have h := h a (List.mem_range.2 ha) p (size_mem hp)
  unfold bsOne at h
  simp only [Bool.and_eq_true, beq_iff_eq, decide_eq_true_eq, Bool.or_eq_true] at h
  obtain ⟨h1, h2, h3, h4, h5, h6⟩ := h
  refine ⟨h1, h2, h3, h4, h5, fun hle => ?_⟩
  rcases h6 with h6 | h6
  · omega
  unfold bsGood at h6
  simp only [Bool.and_eq_true, beq_iff_eq, List.all_eq_true] at h6
  exact ⟨h6.1, h6.2.1, fun i hi => h6.2.2 i (List.mem_range.2 (by omega))⟩
end Go.Proofs.Ytegoncendpboiaa
