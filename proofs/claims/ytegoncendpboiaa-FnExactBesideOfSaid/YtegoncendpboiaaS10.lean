/- Sums of places times steps. -/
import Derived.Test.YtegoncendpboiaaP28
namespace Go.Proofs.Ytegoncendpboiaa
set_option maxRecDepth 20000
open Go.RowKit Go.Am

def dotTo (ps ss : List Int) : Nat → Int
  | 0 => 0
  | k + 1 => dotTo ps ss k + ps.getD k 0 * ss.getD k 0
theorem mul_in {a b : Int} (ha : 0 ≤ a ∧ a ≤ 3) (hb : 0 ≤ b ∧ b ≤ 64) : 0 ≤ a * b ∧ a * b ≤ 192 := by
  have h1 := Int.mul_le_mul ha.2 hb.2 hb.1 (by omega)
  exact ⟨Int.mul_nonneg ha.1 hb.1, by omega⟩
theorem dot_in {ps ss : List Int} {n : Nat} (hp : ∀ j, j < n → 0 ≤ ps.getD j 0 ∧ ps.getD j 0 ≤ 3) (hs : ∀ j, j < n → 0 ≤ ss.getD j 0 ∧ ss.getD j 0 ≤ 64) : ∀ k, k ≤ n → 0 ≤ dotTo ps ss k ∧ dotTo ps ss k ≤ 192 * k
  | 0, _ => ⟨Int.le_refl 0, Int.le_refl 0⟩
  | k + 1, hk => by
    have ih := dot_in hp hs k (by omega)
    have h1 := mul_in (hp k (by omega)) (hs k (by omega))
    show 0 ≤ dotTo ps ss k + _ ∧ dotTo ps ss k + _ ≤ _
    omega
theorem dot_mono {ps ss : List Int} {n : Nat} (hp : ∀ j, j < n → 0 ≤ ps.getD j 0 ∧ ps.getD j 0 ≤ 3) (hs : ∀ j, j < n → 0 ≤ ss.getD j 0 ∧ ss.getD j 0 ≤ 64) {q : Nat} : ∀ d, q + d ≤ n → dotTo ps ss q ≤ dotTo ps ss (q + d)
  | 0, _ => Int.le_refl _
  | d + 1, hd => by
    have ih := dot_mono hp hs d (q := q) (by omega)
    have h1 := mul_in (hp (q + d) (by omega)) (hs (q + d) (by omega))
    have e : dotTo ps ss (q + (d + 1)) = dotTo ps ss (q + d) + ps.getD (q + d) 0 * ss.getD (q + d) 0 := rfl
    omega

/-- Strides are what they are without overflow. -/
theorem str_bound {zs : List Int} (hs : shapeOk zs = true) : ∀ m, m ≤ zs.length → 1 ≤ strT zs m ∧ strT zs m ≤ 4 ^ m
  | 0, _ => ⟨Int.le_refl _, Int.le_refl _⟩
  | m + 1, hm => by
    obtain ⟨h1, h2⟩ := str_bound hs m (by omega)
    have h5 := size_in hs (j := zs.length - 1 - m) (by omega)
    have h3 := ((shapeOk_iff zs).1 hs).1
    have hp := pow4 (n := m) (by omega)
    have a1 : 1 * 1 ≤ strT zs m * zs.getD (zs.length - 1 - m) 0 := Int.mul_le_mul h1 h5.1 (by decide) (by omega)
    have a2 : strT zs m * zs.getD (zs.length - 1 - m) 0 ≤ 4 ^ m * 4 := Int.mul_le_mul h2 h5.2 (by omega) (by omega)
    have e := strT_next (zs := zs) (q := zs.length - (m + 1)) (by omega)
    rw [show zs.length - (zs.length - (m + 1)) = m + 1 by omega, show zs.length - (zs.length - (m + 1) + 1) = m by omega, show zs.length - (m + 1) = zs.length - 1 - m by omega] at e
    rw [IntWalk.i64_in _ (by omega)] at e
    rw [e, Int.pow_succ]
    exact ⟨by omega, a2⟩
theorem str_in {zs : List Int} (hs : shapeOk zs = true) {m : Nat} (hm : m ≤ zs.length) : 1 ≤ strT zs m ∧ strT zs m ≤ 64 := by
  have h1 := str_bound hs m hm
  have h3 := ((shapeOk_iff zs).1 hs).1
  have hp := pow4 (n := m) (by omega)
  omega
theorem str_next {zs : List Int} (hs : shapeOk zs = true) {k : Nat} (hk : k < zs.length) : strT zs (zs.length - k) = strT zs (zs.length - (k + 1)) * zs.getD k 0 := by
  have h1 := str_in hs (m := zs.length - (k + 1)) (by omega)
  have h2 := size_in hs hk
  have h3 := mul_le4 (a := strT zs (zs.length - (k + 1))) (x := zs.getD k 0) (by omega) (by omega)
  rw [strT_next (by omega)]
  exact IntWalk.i64_in _ (by omega)
theorem strides_in {zs : List Int} (hs : shapeOk zs = true) {j : Nat} (hj : j < zs.length) : 1 ≤ (strides zs).getD j 0 ∧ (strides zs).getD j 0 ≤ 64 := by
  rw [strides_getD hj]; exact str_in hs (by omega)

/-- An index is the sum of the places times the strides. -/
theorem idx_dot_k {xs ps : List Int} (hs : shapeOk xs = true) (hp : ∀ j, j < xs.length → 0 ≤ ps.getD j 0 ∧ ps.getD j 0 < xs.getD j 0) : ∀ k, k ≤ xs.length → idxTo xs ps k * strT xs (xs.length - k) = dotTo ps (strides xs) k
  | 0, _ => by show 0 * _ = 0; exact Int.zero_mul _
  | k + 1, hk => by
    have ih := idx_dot_k hs hp k (by omega)
    have hr := idx_range hs hp k (by omega)
    rw [idx_next hs (by omega) hr (hp k (by omega)), Int.add_mul, Int.mul_assoc, Int.mul_comm (xs.getD k 0), ← str_next hs (by omega), ih]
    show _ = dotTo ps (strides xs) k + ps.getD k 0 * (strides xs).getD k 0
    rw [strides_getD (by omega), show xs.length - 1 - k = xs.length - (k + 1) by omega]
theorem idx_dot {xs ps : List Int} (hs : shapeOk xs = true) (hp : ∀ j, j < xs.length → 0 ≤ ps.getD j 0 ∧ ps.getD j 0 < xs.getD j 0) : idxTo xs ps xs.length = dotTo ps (strides xs) xs.length := by
  have h := idx_dot_k hs hp xs.length (Nat.le_refl _)
  rw [Nat.sub_self] at h
  have e : strT xs 0 = 1 := rfl
  rw [e, Int.mul_one] at h
  exact h
theorem places_in {zs : List Int} {i : Int} (hs : shapeOk zs = true) (hi : 0 ≤ i ∧ i < cntTo zs zs.length) {j : Nat} (hj : j < zs.length) : 0 ≤ (places zs i).getD j 0 ∧ (places zs i).getD j 0 ≤ 3 := by
  have h1 := place_in hs hi hj
  have h2 := size_in hs hj
  omega

/-- What is read of numbers, by steps. -/
def rdAt (shape steps : List Int) (start : Int) (i : Nat) : Int := start + dotTo (places shape i) steps shape.length
def rdL (nums shape steps : List Int) (start : Int) : List Int := (List.range (cntTo shape shape.length).toNat).map fun i => nums.getD (rdAt shape steps start i).toNat 0
theorem rdL_length (nums shape steps : List Int) (start : Int) : (rdL nums shape steps start).length = (cntTo shape shape.length).toNat := by simp [rdL]
theorem range_getD {n : Nat} {f : Nat → Int} {j : Nat} (h : j < n) : ((List.range n).map f).getD j 0 = f j := by
  simp [List.getD, List.getElem?_map, List.getElem?_range h]
theorem rdL_getD {nums shape steps : List Int} {start : Int} {j : Nat} (h : j < (cntTo shape shape.length).toNat) : (rdL nums shape steps start).getD j 0 = nums.getD (rdAt shape steps start j).toNat 0 := range_getD h
end Go.Proofs.Ytegoncendpboiaa
