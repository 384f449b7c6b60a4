/- What is reckoned over all shapes and parts along an axis. -/
import Derived.Test.YtgoolnkgcdmhmaaS15
namespace Go.Proofs.Ytgoolnkgcdmhmaa
open Go.RowKit Go.Am

def cutSel (xs : List Int) (a : Nat) (f m : Int) (k : Nat) : Bool := decide (f ≤ (places xs k).getD a 0 ∧ (places xs k).getD a 0 ≤ f + m - 1)
def cutSh (xs : List Int) (a : Nat) (m : Int) : List Int := xs.set a m
def cutAt (xs : List Int) (a : Nat) (f m : Int) (i : Nat) : Int := rdAt (cutSh xs a m) (strides xs) (f * (strides xs).getD a 0) i
def cutOne (xs : List Int) (a : Nat) (f m : Int) : Bool := shapeOk (cutSh xs a m) && ((List.range (cntTo (cutSh xs a m) xs.length).toNat).all fun i => decide (0 ≤ cutAt xs a f m i) && decide (cutAt xs a f m i < cntTo xs xs.length)) &&
  ((List.range (cntTo xs xs.length).toNat).filter (cutSel xs a f m) == (List.range (cntTo (cutSh xs a m) xs.length).toNat).map fun i => (cutAt xs a f m i).toNat)
def cutChk (xs : List Int) : Bool := (List.range xs.length).all fun a => sizes.all fun m => [0, 1, 2, 3].all fun f => decide (xs.getD a 0 < f + m) || cutOne xs a f m
theorem cutChk_2 : shapes2.all cutChk = true := by kernel_rfl
theorem cutChk_31 : (shapes3 1).all cutChk = true := by kernel_rfl
theorem cutChk_32 : (shapes3 2).all cutChk = true := by kernel_rfl
theorem cutChk_33 : (shapes3 3).all cutChk = true := by kernel_rfl
theorem cutChk_34 : (shapes3 4).all cutChk = true := by kernel_rfl
structure CutFacts (xs : List Int) (a : Nat) (f m : Int) : Prop where
  sh : shapeOk (cutSh xs a m) = true
  at_ : ∀ i : Nat, (i : Int) < cntTo (cutSh xs a m) xs.length → 0 ≤ cutAt xs a f m i ∧ cutAt xs a f m i < cntTo xs xs.length
  sel : (List.range (cntTo xs xs.length).toNat).filter (cutSel xs a f m) = (List.range (cntTo (cutSh xs a m) xs.length).toNat).map fun i => (cutAt xs a f m i).toNat
theorem cut_facts {xs : List Int} (hs : shapeOk xs = true) {a : Nat} (ha : a < xs.length) {f m : Int} (hf : 0 ≤ f) (hm : 1 ≤ m) (hfm : f + m ≤ xs.getD a 0) : CutFacts xs a f m := by
  have h := shape_all cutChk_2 cutChk_31 cutChk_32 cutChk_33 cutChk_34 hs
  have hz := size_in hs ha
  unfold cutChk at h
  simp only [List.all_eq_true] at h
  have hmm : m ∈ sizes := size_mem (by omega)
  have hff : f ∈ ([0, 1, 2, 3] : List Int) := by
    have : f = 0 ∨ f = 1 ∨ f = 2 ∨ f = 3 := by omega
    simpa using this
  have h := h a (List.mem_range.2 ha) m hmm f hff
  rw [Bool.or_eq_true, decide_eq_true_iff] at h
  rcases h with h | h
  · omega
  unfold cutOne at h
  simp only [Bool.and_eq_true, decide_eq_true_eq, beq_iff_eq, List.all_eq_true] at h
  obtain ⟨⟨h1, h2⟩, h3⟩ := h
  exact ⟨h1, fun i hi => h2 i (List.mem_range.2 (by omega)), h3⟩
end Go.Proofs.Ytgoolnkgcdmhmaa
