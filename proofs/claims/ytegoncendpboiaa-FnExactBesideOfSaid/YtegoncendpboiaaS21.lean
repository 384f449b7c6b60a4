/- What is reckoned over all shapes and axes: where a number goes when it is summed. -/
import Derived.Test.YtegoncendpboiaaS15
import Derived.Test.YtegoncendpboiaaS20
namespace Go.Proofs.Ytegoncendpboiaa
set_option maxRecDepth 20000
open Go.RowKit Go.Am

def stpA (xs : List Int) (a : Nat) : Int := (strides xs).getD a 0
def blkA (xs : List Int) (a : Nat) : Int := stpA xs a * xs.getD a 0
def sumI (xs : List Int) (a k : Nat) : Int := (k : Int).tdiv (blkA xs a) * stpA xs a + (k : Int).tmod (stpA xs a)
def sumS (xs : List Int) (a k : Nat) : Int := idxTo (wo xs a) (wo (places xs k) a) (wo xs a).length
def cntM (xs : List Int) : Nat := (cntTo xs xs.length).toNat
def sumChk (xs : List Int) : Bool := (List.range xs.length).all fun a => shapeOk (wo xs a) && ((cntTo xs xs.length).tdiv (xs.getD a 0) == cntTo (wo xs a) (wo xs a).length) && decide (blkA xs a ≤ 64) && decide (1 ≤ blkA xs a) &&
  (List.range (cntM xs)).all fun k => decide (0 ≤ sumI xs a k) && decide (sumI xs a k < cntTo (wo xs a) (wo xs a).length) && (sumI xs a k == sumS xs a k) && decide (0 ≤ (k : Int).tdiv (blkA xs a) * stpA xs a) && decide ((k : Int).tdiv (blkA xs a) * stpA xs a ≤ 64)
theorem sumChk_2 : shapes2.all sumChk = true := by kernel_rfl
theorem sumChk_31 : (shapes3 1).all sumChk = true := by kernel_rfl
theorem sumChk_32 : (shapes3 2).all sumChk = true := by kernel_rfl
theorem sumChk_33 : (shapes3 3).all sumChk = true := by kernel_rfl
theorem sumChk_34 : (shapes3 4).all sumChk = true := by kernel_rfl
structure SumFacts (xs : List Int) (a : Nat) : Prop where
  sh : shapeOk (wo xs a) = true
  cnt : (cntTo xs xs.length).tdiv (xs.getD a 0) = cntTo (wo xs a) (wo xs a).length
  blk : 1 ≤ blkA xs a ∧ blkA xs a ≤ 64
  at_ : ∀ k : Nat, (k : Int) < cntTo xs xs.length → (0 ≤ sumI xs a k ∧ sumI xs a k < cntTo (wo xs a) (wo xs a).length) ∧ sumI xs a k = sumS xs a k ∧ 0 ≤ (k : Int).tdiv (blkA xs a) * stpA xs a ∧ (k : Int).tdiv (blkA xs a) * stpA xs a ≤ 64
theorem sum_facts {xs : List Int} (hs : shapeOk xs = true) {a : Nat} (ha : a < xs.length) : SumFacts xs a := by
  have h := shape_all sumChk_2 sumChk_31 sumChk_32 sumChk_33 sumChk_34 hs
  unfold sumChk at h
  rw [List.all_eq_true] at h
  have h := h a (List.mem_range.2 ha)
  simp only [Bool.and_eq_true, decide_eq_true_eq, beq_iff_eq, List.all_eq_true] at h
  obtain ⟨⟨⟨⟨h1, h2⟩, h3⟩, h4⟩, h5⟩ := h
  have hc := cnt64 hs (Nat.le_refl _)
  refine ⟨h1, h2, ⟨h4, h3⟩, fun k hk => ?_⟩
  obtain ⟨⟨⟨⟨a1, a2⟩, a3⟩, a4⟩, a5⟩ := h5 k (List.mem_range.2 (by unfold cntM; omega))
  exact ⟨⟨a1, a2⟩, a3, a4, a5⟩

/-- Sums, number by number. -/
def smTo (xs zs : List Int) (a : Nat) : Nat → List Int
  | 0 => List.replicate (cntTo (wo xs a) (wo xs a).length).toNat 0
  | k + 1 => (smTo xs zs a k).set (sumI xs a k).toNat (IntKind.i64.wrap ((smTo xs zs a k).getD (sumI xs a k).toNat 0 + zs.getD k 0))
theorem smTo_length (xs zs : List Int) (a : Nat) : ∀ k, (smTo xs zs a k).length = (cntTo (wo xs a) (wo xs a).length).toNat
  | 0 => by simp [smTo]
  | k + 1 => by rw [smTo, List.length_set]; exact smTo_length xs zs a k
def told (xs zs : List Int) : TM := if tensorOk xs zs = true then (xs, zs, true) else noT
theorem told_t {xs zs : List Int} (h : tensorOk xs zs = true) : told xs zs = (xs, zs, true) := if_pos h
theorem told_f {xs zs : List Int} (h : tensorOk xs zs = false) : told xs zs = noT := if_neg (by rw [h]; exact Bool.false_ne_true)
theorem told_len (xs zs : List Int) : (told xs zs).1.length ≤ 3 ∧ (told xs zs).2.1.length ≤ 64 := by
  rcases tensor_or xs zs with ⟨ht, hx, hz⟩ | ht
  · rw [told_t ht]; exact ⟨hx, hz.2⟩
  · rw [told_f ht]; exact ⟨Nat.zero_le _, Nat.zero_le _⟩
def sumM (xs zs : List Int) (i : Int) : TM := if tensorOk xs zs = true ∧ 0 ≤ i ∧ i < xs.length then told (wo xs i.toNat) (smTo xs zs i.toNat zs.length) else noT
theorem sumM_t {xs zs : List Int} {a : Nat} (h : tensorOk xs zs = true) (ha : a < xs.length) : sumM xs zs a = told (wo xs a) (smTo xs zs a zs.length) := by
  unfold sumM; rw [if_pos ⟨h, by omega, by omega⟩, Int.toNat_natCast]
theorem sumM_f1 {xs zs : List Int} {i : Int} (h : tensorOk xs zs = false) : sumM xs zs i = noT := if_neg (by rw [h]; exact fun h => Bool.false_ne_true h.1)
theorem sumM_f2 {xs zs : List Int} {i : Int} (h : ¬ (0 ≤ i ∧ i < xs.length)) : sumM xs zs i = noT := if_neg (fun h' => h h'.2)
theorem sumM_len (xs zs : List Int) (i : Int) : (sumM xs zs i).1.length ≤ 3 ∧ (sumM xs zs i).2.1.length ≤ 64 := by
  unfold sumM; split
  · exact told_len _ _
  · exact ⟨Nat.zero_le _, Nat.zero_le _⟩
end Go.Proofs.Ytegoncendpboiaa
