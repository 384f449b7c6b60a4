import Derived.Test.YtpbenelmklggcaaGreatM012x14
import Derived.Test.YtpbenelmklggcaaGreatM012x12
/- Indices and places, joined shapes: what they are together. -/
namespace Go.Proofs.YtpbenelmklggcaaGreat
set_option maxRecDepth 20000
open Go.RowKit Go.Am

theorem pow4 {n : Nat} (h : n ≤ 3) : (4 : Int) ^ n ≤ 64 := by
  rcases n with _ | _ | _ | _ | n
  · decide
  · decide
  · decide
  · decide
  · omega
theorem size_in {xs : List Int} (h : shapeOk xs = true) {j : Nat} (hj : j < xs.length) : 1 ≤ xs.getD j 0 ∧ xs.getD j 0 ≤ 4 := (okSize_iff _).1 (((shapeOk_iff xs).1 h).2 j hj)
theorem cnt64 {xs : List Int} (h : shapeOk xs = true) {k : Nat} (hk : k ≤ xs.length) : 1 ≤ cntTo xs k ∧ cntTo xs k ≤ 64 := by
  have h3 := ((shapeOk_iff xs).1 h).1
  have h1 := cnt_bound h k hk
  have h2 := pow4 (n := k) (by omega)
  omega
theorem mul_le4 {a x : Int} (ha : 0 ≤ a ∧ a ≤ 64) (hx : 0 ≤ x ∧ x ≤ 4) : 0 ≤ a * x ∧ a * x ≤ 256 := by
  have h1 := Int.mul_le_mul ha.2 hx.2 hx.1 (by omega)
  exact ⟨Int.mul_nonneg ha.1 hx.1, by omega⟩
theorem cnt_next {xs : List Int} (h : shapeOk xs = true) {k : Nat} (hk : k < xs.length) : cntTo xs (k + 1) = cntTo xs k * xs.getD k 0 := by
  have h1 := cnt64 h (k := k) (by omega)
  have h2 := size_in h hk
  have h3 := mul_le4 (a := cntTo xs k) (x := xs.getD k 0) (by omega) (by omega)
  show IntKind.i64.wrap _ = _
  exact IntWalk.i64_in _ (by omega)

/-- Indices below a count. -/
theorem idx_step {a b x p : Int} (h1 : 0 ≤ a) (h2 : a < b) (hx : 1 ≤ x) (hp : 0 ≤ p) (hp' : p < x) : 0 ≤ a * x + p ∧ a * x + p < b * x := by
  have h3 : (a + 1) * x ≤ b * x := Int.mul_le_mul_of_nonneg_right (by omega) (by omega)
  have h4 := Int.mul_nonneg h1 (show 0 ≤ x by omega)
  rw [Int.add_mul, Int.one_mul] at h3
  omega
theorem idx_next {xs ps : List Int} (hs : shapeOk xs = true) {k : Nat} (hk : k < xs.length) (h1 : 0 ≤ idxTo xs ps k ∧ idxTo xs ps k < cntTo xs k) (hp : 0 ≤ ps.getD k 0 ∧ ps.getD k 0 < xs.getD k 0) : idxTo xs ps (k + 1) = idxTo xs ps k * xs.getD k 0 + ps.getD k 0 := by
  have h2 := cnt64 hs (k := k) (by omega)
  have h3 := size_in hs hk
  have h4 := mul_le4 (a := idxTo xs ps k) (x := xs.getD k 0) (by omega) (by omega)
  show IntKind.i64.wrap (IntKind.i64.wrap _ + _) = _
  rw [IntWalk.i64_in (idxTo xs ps k * xs.getD k 0) (by omega)]
  exact IntWalk.i64_in _ (by omega)
theorem idx_range {xs ps : List Int} (hs : shapeOk xs = true) (hp : ∀ j, j < xs.length → 0 ≤ ps.getD j 0 ∧ ps.getD j 0 < xs.getD j 0) : ∀ k, k ≤ xs.length → 0 ≤ idxTo xs ps k ∧ idxTo xs ps k < cntTo xs k
  | 0, _ => ⟨Int.le_refl 0, (by decide : (0 : Int) < 1)⟩
  | k + 1, hk => by
    have ih := idx_range hs hp k (by omega)
    have h1 := hp k (by omega)
    rw [idx_next hs (by omega) ih h1, cnt_next hs (by omega)]
    exact idx_step ih.1 ih.2 (size_in hs (by omega)).1 h1.1 h1.2

/-- Quotients, and the places that they make. -/
theorem quo_bound {zs : List Int} {i : Int} (hs : shapeOk zs = true) (hi : 0 ≤ i ∧ i < cntTo zs zs.length) : ∀ m, m ≤ zs.length → 0 ≤ quoT zs i m ∧ quoT zs i m < cntTo zs (zs.length - m)
  | 0, _ => hi
  | m + 1, hm => by
    have ih := quo_bound hs hi m (by omega)
    have hz := size_in hs (j := zs.length - 1 - m) (by omega)
    have hc := cnt64 hs (k := zs.length - m) (by omega)
    have e : zs.length - m = (zs.length - (m + 1)) + 1 := by omega
    have e2 : zs.length - 1 - m = zs.length - (m + 1) := by omega
    have hn : cntTo zs (zs.length - m) = cntTo zs (zs.length - (m + 1)) * zs.getD (zs.length - (m + 1)) 0 := by
      rw [e]; exact cnt_next hs (by omega)
    have hd : (quoT zs i m).tdiv (zs.getD (zs.length - 1 - m) 0) = quoT zs i m / zs.getD (zs.length - 1 - m) 0 := Int.tdiv_eq_ediv_of_nonneg ih.1
    have h1 : 0 ≤ quoT zs i m / zs.getD (zs.length - 1 - m) 0 := Int.ediv_nonneg ih.1 (by omega)
    have h2 : quoT zs i m / zs.getD (zs.length - 1 - m) 0 < cntTo zs (zs.length - (m + 1)) := Int.ediv_lt_of_lt_mul (by omega) (by rw [e2, ← hn]; exact ih.2)
    have h3 := cnt64 hs (k := zs.length - (m + 1)) (by omega)
    show 0 ≤ IntKind.i64.wrap _ ∧ IntKind.i64.wrap _ < _
    rw [hd, IntWalk.i64_in _ (by omega)]
    exact ⟨h1, h2⟩
theorem quo_next {zs : List Int} {i : Int} (hs : shapeOk zs = true) (hi : 0 ≤ i ∧ i < cntTo zs zs.length) {k : Nat} (hk : k < zs.length) : quoT zs i (zs.length - k) = quoT zs i (zs.length - (k + 1)) / zs.getD k 0 := by
  have h1 := quo_bound hs hi (zs.length - (k + 1)) (by omega)
  have hz := size_in hs hk
  have hc := cnt64 hs (k := zs.length - (zs.length - (k + 1))) (by omega)
  have hd : (quoT zs i (zs.length - (k + 1))).tdiv (zs.getD k 0) = quoT zs i (zs.length - (k + 1)) / zs.getD k 0 := Int.tdiv_eq_ediv_of_nonneg h1.1
  have h2 : 0 ≤ quoT zs i (zs.length - (k + 1)) / zs.getD k 0 := Int.ediv_nonneg h1.1 (by omega)
  have h3 := Int.ediv_le_self (zs.getD k 0) h1.1
  rw [quoT_next (by omega), hd]
  exact IntWalk.i64_in _ (by omega)
theorem place_in {zs : List Int} {i : Int} (hs : shapeOk zs = true) (hi : 0 ≤ i ∧ i < cntTo zs zs.length) {j : Nat} (hj : j < zs.length) : 0 ≤ (places zs i).getD j 0 ∧ (places zs i).getD j 0 < zs.getD j 0 := by
  rw [places_getD hj]
  have h1 := quo_bound hs hi (zs.length - 1 - j) (by omega)
  have h2 := size_in hs hj
  exact ⟨Int.tmod_nonneg _ h1.1, Int.tmod_lt_of_pos _ (by omega)⟩
theorem idx_places {zs : List Int} {i : Int} (hs : shapeOk zs = true) (hi : 0 ≤ i ∧ i < cntTo zs zs.length) : ∀ k, k ≤ zs.length → idxTo zs (places zs i) k = quoT zs i (zs.length - k)
  | 0, _ => by
    have h := quo_bound hs hi zs.length (Nat.le_refl _)
    rw [Nat.sub_self] at h
    have e : cntTo zs 0 = 1 := rfl
    show 0 = quoT zs i (zs.length - 0)
    rw [Nat.sub_zero]; omega
  | k + 1, hk => by
    have ih := idx_places hs hi k (by omega)
    have hr := idx_range hs (fun j hj => place_in hs hi hj) k (by omega)
    rw [idx_next hs (by omega) hr (place_in hs hi (by omega)), ih, quo_next hs hi (by omega), places_getD (by omega)]
    have e : zs.length - 1 - k = zs.length - (k + 1) := by omega
    have h1 := quo_bound hs hi (zs.length - (k + 1)) (by omega)
    rw [e, Int.tmod_eq_emod_of_nonneg h1.1]
    have := Int.mul_ediv_add_emod (quoT zs i (zs.length - (k + 1))) (zs.getD k 0)
    rw [Int.mul_comm] at this
    exact this

/-- Axes from the last one on. -/
theorem bx_of {xs : List Int} {n k : Nat} (_ : k < n) (hn : xs.length ≤ n) : bx xs ((n : Int) - k) = if k < n - xs.length then 1 else xs.getD (k - (n - xs.length)) 0 := by
  unfold bx
  by_cases h : k < n - xs.length
  · rw [if_pos (by omega), if_pos h]
  · rw [if_neg (by omega), if_neg h]
    congr 1; omega
theorem bx_in {xs : List Int} (hs : shapeOk xs = true) {n k : Nat} (hk : k < n) (hn : xs.length ≤ n) : 1 ≤ bx xs ((n : Int) - k) ∧ bx xs ((n : Int) - k) ≤ 4 := by
  rw [bx_of hk hn]
  split
  · omega
  · exact size_in hs (by omega)
theorem jN_comm (xs ys : List Int) : jN xs ys = jN ys xs := by unfold jN; omega
theorem bad_comm (xs ys : List Int) (b : Int) : bad xs ys b ↔ bad ys xs b := by unfold bad; omega
theorem jn_comm (xs ys : List Int) (b : Int) : jn xs ys b = jn ys xs b := by unfold jn; split <;> split <;> omega
theorem jOk_comm (xs ys : List Int) : jOk xs ys = jOk ys xs := by
  have key : ∀ xs ys : List Int, jOk xs ys = true → jOk ys xs = true := fun xs ys h => by
    obtain ⟨h1, h2, h3⟩ := (jOk_iff xs ys).1 h
    refine (jOk_iff ys xs).2 ⟨h2, h1, fun j hj => ?_⟩
    rw [jN_comm] at hj ⊢
    rw [bad_comm]
    exact h3 j hj
  by_cases h : jOk xs ys = true
  · rw [h, key xs ys h]
  · by_cases h' : jOk ys xs = true
    · exact absurd (key ys xs h') h
    · rw [Bool.not_eq_true] at h h'
      rw [h, h']
theorem joined_comm (xs ys : List Int) : joined xs ys = joined ys xs := getD_ext (by rw [joined_length, joined_length, jN_comm]) fun j hj => by
  rw [joined_length] at hj
  rw [joined_getD hj, joined_getD (by rw [jN_comm]; exact hj), jn_comm, jN_comm]
theorem jL_comm (xs ys : List Int) : jL xs ys = jL ys xs := by
  unfold jL; rw [jOk_comm, joined_comm]

theorem jL_joined {xs ys : List Int} (h : jOk xs ys = true) : jL xs ys = joined xs ys := if_pos h
theorem jL_length {xs ys : List Int} (h : jOk xs ys = true) : (jL xs ys).length = jN xs ys := by rw [jL_joined h, joined_length]
theorem bx_jL {xs ys : List Int} (h : jOk xs ys = true) {k : Nat} (hk : k < jN xs ys) : bx (jL xs ys) ((jN xs ys : Int) - k) = jn xs ys ((jN xs ys : Int) - k) := by
  rw [bx_of hk (by rw [jL_length h]; exact Nat.le_refl _), jL_length h, Nat.sub_self, if_neg (Nat.not_lt_zero _), Nat.sub_zero, jL_joined h, joined_getD hk]
theorem jn_in {xs ys : List Int} (h : jOk xs ys = true) {k : Nat} (hk : k < jN xs ys) : 1 ≤ jn xs ys ((jN xs ys : Int) - k) ∧ jn xs ys ((jN xs ys : Int) - k) ≤ 4 := by
  obtain ⟨h1, h2, h3⟩ := (jOk_iff xs ys).1 h
  have a := bx_in h1 hk (show xs.length ≤ jN xs ys by unfold jN; omega)
  have b := bx_in h2 hk (show ys.length ≤ jN xs ys by unfold jN; omega)
  unfold jn; split <;> omega
theorem jL_ok {xs ys : List Int} (h : jOk xs ys = true) : shapeOk (jL xs ys) = true := by
  obtain ⟨h1, h2, h3⟩ := (jOk_iff xs ys).1 h
  have l1 := ((shapeOk_iff xs).1 h1).1
  have l2 := ((shapeOk_iff ys).1 h2).1
  refine shapeOk_t (by rw [jL_length h]; unfold jN; omega) fun j hj => (okSize_iff _).2 ?_
  rw [jL_length h] at hj
  rw [jL_joined h, joined_getD hj]
  exact jn_in h hj
theorem jN_jL {xs ys : List Int} (h : jOk xs ys = true) : jN xs (jL xs ys) = jN xs ys := by
  have := jL_length h
  unfold jN at this ⊢; omega
theorem jOk_jL {xs ys : List Int} (h : jOk xs ys = true) : jOk xs (jL xs ys) = true := by
  obtain ⟨h1, h2, h3⟩ := (jOk_iff xs ys).1 h
  refine (jOk_iff _ _).2 ⟨h1, jL_ok h, fun j hj => ?_⟩
  rw [jN_jL h] at hj ⊢
  have hb := h3 j hj
  have a := bx_in h1 hj (show xs.length ≤ jN xs ys by unfold jN; omega)
  have b := bx_in h2 hj (show ys.length ≤ jN xs ys by unfold jN; omega)
  unfold bad at hb ⊢
  rw [bx_jL h hj]
  unfold jn
  split <;> omega
theorem jL_jL {xs ys : List Int} (h : jOk xs ys = true) : jL xs (jL xs ys) = jL xs ys := getD_ext (by rw [jL_length (jOk_jL h), jN_jL h, jL_length h]) fun j hj => by
  rw [jL_length h] at hj
  have h1 := ((jOk_iff xs ys).1 h).1
  rw [jL_joined (jOk_jL h), joined_getD (by rw [jN_jL h]; exact hj), jN_jL h]
  rw [jL_joined h, joined_getD hj, ← jL_joined h]
  show jn xs (jL xs ys) _ = _
  have e := bx_jL h hj
  unfold jn at e ⊢
  rw [e]
  by_cases h8 : bx xs ((jN xs ys : Int) - j) < bx ys ((jN xs ys : Int) - j)
  · simp only [h8, if_true]
  · simp only [h8, if_false, ite_self]

theorem sp_ok {xs ys : List Int} {i : Int} (h : spOk xs ys i) : shapeOk xs = true ∧ shapeOk ys = true ∧ xs.length ≤ ys.length ∧ jN xs ys = ys.length := by
  obtain ⟨h1, h2, h3⟩ := h
  obtain ⟨a1, a2⟩ := sp_facts h1 h2
  have a3 := ((jOk_iff xs ys).1 h1).1
  exact ⟨a3, a1, a2, by unfold jN; omega⟩
theorem sp_axis {xs ys : List Int} {i : Int} (h : spOk xs ys i) {j : Nat} (hj : j < xs.length) : 1 ≤ xs.getD j 0 ∧ (xs.getD j 0 = 1 ∨ xs.getD j 0 = ys.getD (ys.length - xs.length + j) 0) := by
  obtain ⟨a1, a2, a3, a4⟩ := sp_ok h
  have hs := size_in a1 hj
  refine ⟨hs.1, ?_⟩
  have hk : ys.length - xs.length + j < jN xs ys := by rw [a4]; omega
  have hb := ((jOk_iff xs ys).1 h.1).2.2 _ hk
  have e1 : bx xs ((jN xs ys : Int) - ((ys.length - xs.length + j : Nat) : Int)) = xs.getD j 0 := by
    rw [bx_of hk (by rw [a4]; exact a3), a4, if_neg (by omega)]; congr 1; omega
  have e2 : bx ys ((jN xs ys : Int) - ((ys.length - xs.length + j : Nat) : Int)) = ys.getD (ys.length - xs.length + j) 0 := by
    rw [bx_of hk (by rw [a4]; exact Nat.le_refl _), a4, if_neg (by omega)]; congr 1; omega
  have e3 : bx (jL xs ys) ((jN xs ys : Int) - ((ys.length - xs.length + j : Nat) : Int)) = ys.getD (ys.length - xs.length + j) 0 := by rw [h.2.1]; exact e2
  rw [bx_jL h.1 hk] at e3
  unfold bad at hb
  unfold jn at e3
  rw [e1, e2] at hb e3
  split at e3 <;> omega
theorem px_in {xs ys : List Int} {i : Int} (h : spOk xs ys i) {j : Nat} (hj : j < xs.length) : 0 ≤ (px xs ys i).getD j 0 ∧ (px xs ys i).getD j 0 < xs.getD j 0 ∧ (px xs ys i).getD j 0 ≤ (places ys i).getD (ys.length - xs.length + j) 0 := by
  obtain ⟨a1, a2, a3, a4⟩ := sp_ok h
  have hp := place_in a2 h.2.2 (j := ys.length - xs.length + j) (by omega)
  have hx := sp_axis h hj
  rw [px_getD hj]
  split <;> omega
theorem spread_eq {xs ys : List Int} {i : Int} (h : spOk xs ys i) : spread xs ys i = idxTo xs (px xs ys i) xs.length := if_pos h
theorem spread_in {xs ys : List Int} {i : Int} (h : spOk xs ys i) : 0 ≤ spread xs ys i ∧ spread xs ys i < cntTo xs xs.length := by
  rw [spread_eq h]
  exact idx_range (sp_ok h).1 (fun j hj => ⟨(px_in h hj).1, (px_in h hj).2.1⟩) _ (Nat.le_refl _)
theorem spread_le_k {xs ys : List Int} {i : Int} (h : spOk xs ys i) : ∀ k, k ≤ xs.length → idxTo xs (px xs ys i) k ≤ idxTo ys (places ys i) (ys.length - xs.length + k)
  | 0, _ => (idx_range (sp_ok h).2.1 (fun j hj => place_in (sp_ok h).2.1 h.2.2 hj) _ (by omega)).1
  | k + 1, hk => by
    obtain ⟨a1, a2, a3, a4⟩ := sp_ok h
    have ih := spread_le_k h k (by omega)
    have hr1 := idx_range a1 (fun j hj => ⟨(px_in h hj).1, (px_in h hj).2.1⟩) k (by omega)
    have hr2 := idx_range a2 (fun j hj => place_in a2 h.2.2 hj) (ys.length - xs.length + k) (by omega)
    have hp := px_in h (j := k) (by omega)
    have hy := place_in a2 h.2.2 (j := ys.length - xs.length + k) (by omega)
    have hx := sp_axis h (j := k) (by omega)
    have hsy := size_in a2 (j := ys.length - xs.length + k) (by omega)
    rw [idx_next a1 (by omega) hr1 ⟨hp.1, hp.2.1⟩]
    show _ ≤ idxTo ys (places ys i) ((ys.length - xs.length + k) + 1)
    rw [idx_next a2 (by omega) hr2 hy]
    have := Int.mul_le_mul ih (show xs.getD k 0 ≤ ys.getD (ys.length - xs.length + k) 0 by omega) (by omega) hr2.1
    omega
theorem spread_le {xs ys : List Int} {i : Int} (h : spOk xs ys i) : spread xs ys i ≤ i := by
  obtain ⟨a1, a2, a3, a4⟩ := sp_ok h
  have := spread_le_k h xs.length (Nat.le_refl _)
  rw [spread_eq h]
  rw [show ys.length - xs.length + xs.length = ys.length by omega, idx_places a2 h.2.2 _ (Nat.le_refl _), Nat.sub_self] at this
  exact this

/-- A shape is spread over itself. -/
theorem jOk_self {ys : List Int} (h : shapeOk ys = true) : jOk ys ys = true := (jOk_iff ys ys).2 ⟨h, h, fun _ _ hb => hb.1 rfl⟩
theorem jL_self {ys : List Int} (h : shapeOk ys = true) : jL ys ys = ys := getD_ext (by rw [jL_length (jOk_self h)]; unfold jN; omega) fun j hj => by
  have e : jN ys ys = ys.length := by unfold jN; omega
  rw [jL_joined (jOk_self h), joined_getD (by omega), e]
  unfold jn
  rw [if_neg (by omega), bx_of hj (Nat.le_refl _), Nat.sub_self, if_neg (Nat.not_lt_zero _), Nat.sub_zero]
theorem px_self {ys : List Int} {i : Int} (hs : shapeOk ys = true) (hi : 0 ≤ i ∧ i < cntTo ys ys.length) : px ys ys i = places ys i := getD_ext (by rw [px_length, places_length]) fun j hj => by
  rw [places_length] at hj
  rw [px_getD hj, Nat.sub_self, Nat.zero_add]
  have hp := place_in hs hi hj
  split <;> omega
theorem spread_self {ys : List Int} {i : Int} (hs : shapeOk ys = true) (hi : 0 ≤ i ∧ i < cntTo ys ys.length) : spread ys ys i = i := by
  have h : spOk ys ys i := ⟨jOk_self hs, jL_self hs, hi⟩
  rw [spread_eq h, px_self hs hi, idx_places hs hi _ (Nat.le_refl _), Nat.sub_self]
  rfl
theorem spread_own (xs ys : List Int) (i : Int) : (spread ys ys i = i ∨ spread ys ys i = -1) ∧ (spread xs ys i < 0 ∨ (spread ys ys i = i ∧ spread xs ys i ≤ i)) := by
  have key : ∀ xs : List Int, spOk xs ys i → spread ys ys i = i := fun xs h => spread_self (sp_ok h).2.1 h.2.2
  refine ⟨?_, ?_⟩
  · by_cases h : spOk ys ys i
    · exact .inl (key ys h)
    · exact .inr (if_neg h)
  · by_cases h : spOk xs ys i
    · exact .inr ⟨key xs h, spread_le h⟩
    · left; unfold spread; rw [if_neg h]; decide

/-- The count of a joined shape. -/
theorem cnt_joined {xs ys : List Int} (h : jOk xs ys = true) : ∀ k, k ≤ jN xs ys → cntTo (jL xs ys) k ≤ cntTo xs (k - (jN xs ys - xs.length)) * cntTo ys (k - (jN xs ys - ys.length))
  | 0, _ => by rw [Nat.zero_sub, Nat.zero_sub]; exact (by decide : (1 : Int) ≤ 1 * 1)
  | k + 1, hk => by
    obtain ⟨h1, h2, h3⟩ := (jOk_iff xs ys).1 h
    have ih := cnt_joined h k (by omega)
    have lx : xs.length ≤ jN xs ys := by unfold jN; omega
    have ly : ys.length ≤ jN xs ys := by unfold jN; omega
    have hz := jL_length h
    have step : ∀ (zs : List Int), shapeOk zs = true → zs.length ≤ jN xs ys → cntTo zs (k + 1 - (jN xs ys - zs.length)) = cntTo zs (k - (jN xs ys - zs.length)) * bx zs ((jN xs ys : Int) - k) := fun zs hs hl => by
      rw [bx_of (by omega) hl]
      by_cases hc : k < jN xs ys - zs.length
      · rw [if_pos hc, Int.mul_one]; congr 1; omega
      · rw [if_neg hc]
        have e : k + 1 - (jN xs ys - zs.length) = (k - (jN xs ys - zs.length)) + 1 := by omega
        rw [e]
        exact cnt_next hs (by omega)
    have s0 := step (jL xs ys) (jL_ok h) (by omega)
    rw [hz, Nat.sub_self, Nat.sub_zero, Nat.sub_zero, bx_jL h (by omega)] at s0
    rw [s0, step xs h1 lx, step ys h2 ly]
    have a := bx_in h1 (show k < jN xs ys by omega) lx
    have b := bx_in h2 (show k < jN xs ys by omega) ly
    have cz := cnt64 (jL_ok h) (k := k) (by omega)
    have cx := cnt64 h1 (k := k - (jN xs ys - xs.length)) (by omega)
    have cy := cnt64 h2 (k := k - (jN xs ys - ys.length)) (by omega)
    have hj : jn xs ys ((jN xs ys : Int) - k) ≤ bx xs ((jN xs ys : Int) - k) * bx ys ((jN xs ys : Int) - k) := by
      have e1 := Int.mul_le_mul a.1 (Int.le_refl (bx ys ((jN xs ys : Int) - k))) (by omega) (by omega)
      have e2 := Int.mul_le_mul (Int.le_refl (bx xs ((jN xs ys : Int) - k))) b.1 (by omega) (by omega)
      rw [Int.one_mul] at e1
      rw [Int.mul_one] at e2
      unfold jn; split <;> omega
    have hjn := jn_in h (show k < jN xs ys by omega)
    have := Int.mul_le_mul ih hj (by omega) (Int.mul_nonneg (by omega) (by omega))
    calc _ ≤ _ := this
      _ = _ := by
        simp only [Int.mul_assoc]
        congr 1
        rw [← Int.mul_assoc, Int.mul_comm (cntTo ys _), Int.mul_assoc]
theorem count_joined {xs ys : List Int} (h : jOk xs ys = true) : cntTo (jL xs ys) (jL xs ys).length ≤ cntTo xs xs.length * cntTo ys ys.length := by
  have lx : xs.length ≤ jN xs ys := by unfold jN; omega
  have ly : ys.length ≤ jN xs ys := by unfold jN; omega
  have := cnt_joined h (jN xs ys) (Nat.le_refl _)
  rw [show jN xs ys - (jN xs ys - xs.length) = xs.length by omega, show jN xs ys - (jN xs ys - ys.length) = ys.length by omega] at this
  rw [jL_length h]; exact this
/-- What is told of two shapes that are drawn. -/
def joinFacts (xs ys : List Int) : Prop := (jOk ys xs = jOk xs ys ∧ jL ys xs = jL xs ys) ∧ (jOk xs ys = false → jL xs ys = []) ∧ (jOk xs ys = true → jL xs (jL xs ys) = jL xs ys ∧ countOf (jL xs ys) ≤ countOf xs * countOf ys ∧ (0 ≤ countOf (jL xs ys) ∧ countOf (jL xs ys) ≤ 64) ∧ (0 ≤ countOf xs * countOf ys ∧ countOf xs * countOf ys ≤ 4096) ∧
  ∀ i, 0 ≤ i → i < countOf (jL xs ys) → (0 ≤ spread xs (jL xs ys) i ∧ spread xs (jL xs ys) i < countOf xs) ∧ (0 ≤ spread ys (jL xs ys) i ∧ spread ys (jL xs ys) i < countOf ys))
theorem count_of {xs : List Int} (h : shapeOk xs = true) : countOf xs = cntTo xs xs.length := if_pos h
theorem joinFacts_in (xs ys : List Int) : joinFacts xs ys := by
  refine ⟨⟨jOk_comm ys xs, jL_comm ys xs⟩, fun h => ?_, fun h => ?_⟩
  · unfold jL; rw [h]; rfl
  · obtain ⟨h1, h2, h3⟩ := (jOk_iff xs ys).1 h
    have h4 : jOk ys xs = true := by rw [jOk_comm]; exact h
    have cx := cnt64 h1 (k := xs.length) (Nat.le_refl _)
    have cy := cnt64 h2 (k := ys.length) (Nat.le_refl _)
    have cz := cnt64 (jL_ok h) (k := (jL xs ys).length) (Nat.le_refl _)
    rw [count_of h1, count_of h2, count_of (jL_ok h)]
    refine ⟨jL_jL h, count_joined h, ⟨by omega, cz.2⟩, ⟨Int.mul_nonneg (by omega) (by omega), ?_⟩, fun i hi hi' => ⟨?_, ?_⟩⟩
    · have := Int.mul_le_mul cx.2 cy.2 (by omega) (by omega)
      omega
    · exact spread_in ⟨jOk_jL h, jL_jL h, hi, hi'⟩
    · rw [jL_comm xs ys] at hi' ⊢
      exact spread_in ⟨jOk_jL h4, jL_jL h4, hi, hi'⟩
end Go.Proofs.YtpbenelmklggcaaGreat

/- TurnOk. -/
namespace Go.Proofs.YtpbenelmklggcaaGreat
set_option maxRecDepth 20000
open Go.RowKit Go.Am
attribute [local irreducible] aPlan aGet aIf aLoop aCall RetB NextB CallB CallG aCut aSet aAppend

/-- The axes that are seen among the first k; none, when one is no axis or comes twice. -/
def turnTo (zs : List Int) (n : Int) : Nat → Option (List Bool)
  | 0 => some (List.replicate n.toNat false)
  | k + 1 =>
    match turnTo zs n k with
    | some bs => if 0 ≤ zs.getD k 0 ∧ zs.getD k 0 < n ∧ bs.getD (zs.getD k 0).toNat false = false then some (bs.set (zs.getD k 0).toNat true) else none
    | none => none
theorem turnTo_next {zs : List Int} {n : Int} {k : Nat} {bs : List Bool} (h : turnTo zs n k = some bs) (h' : 0 ≤ zs.getD k 0 ∧ zs.getD k 0 < n ∧ bs.getD (zs.getD k 0).toNat false = false) : turnTo zs n (k + 1) = some (bs.set (zs.getD k 0).toNat true) := by
  unfold turnTo; rw [h]; simp only; rw [if_pos h']
theorem turnTo_f {zs : List Int} {n : Int} {k : Nat} {bs : List Bool} (h : turnTo zs n k = some bs) (h' : ¬ (0 ≤ zs.getD k 0 ∧ zs.getD k 0 < n ∧ bs.getD (zs.getD k 0).toNat false = false)) : turnTo zs n (k + 1) = none := by
  unfold turnTo; rw [h]; simp only; rw [if_neg h']
theorem turnTo_none {zs : List Int} {n : Int} {k : Nat} (h : turnTo zs n k = none) : ∀ d, turnTo zs n (k + d) = none
  | 0 => h
  | d + 1 => by
    have := turnTo_none h d
    show turnTo zs n (k + d + 1) = none
    unfold turnTo; rw [this]
def turnOk (zs : List Int) (n : Int) : Bool := decide (n ≤ 3 ∧ (zs.length : Int) = n) && (turnTo zs n zs.length).isSome
theorem turnOk_f {zs : List Int} {n : Int} (h : ¬ (n ≤ 3 ∧ (zs.length : Int) = n)) : turnOk zs n = false := by unfold turnOk; simp [h]
theorem turnOk_fk {zs : List Int} {n : Int} {k : Nat} {bs : List Bool} (hk : k < zs.length) (h : turnTo zs n k = some bs) (h' : ¬ (0 ≤ zs.getD k 0 ∧ zs.getD k 0 < n ∧ bs.getD (zs.getD k 0).toNat false = false)) : turnOk zs n = false := by
  have := turnTo_none (turnTo_f h h') (zs.length - (k + 1))
  rw [show k + 1 + (zs.length - (k + 1)) = zs.length by omega] at this
  unfold turnOk; simp [this]
theorem turnOk_t {zs : List Int} {n : Int} {bs : List Bool} (h : n ≤ 3 ∧ (zs.length : Int) = n) (h' : turnTo zs n zs.length = some bs) : turnOk zs n = true := by unfold turnOk; simp [h, h']

def sTurnOk : CSpec := fnS (ι := Nat × List Int × Int) (fun | (c, zs, n) => [.sl c zs.length (zs.map (.int .i64)), .int .i64 n]) (fun _ => True) (fun | (_, zs, n) => .bool (turnOk zs n))

def difOk (zs : List Int) (n : Int) : Bool := (turnTo zs n zs.length).isSome
theorem difOk_fk {zs : List Int} {n : Int} {k : Nat} {bs : List Bool} (hk : k < zs.length) (h : turnTo zs n k = some bs) (h' : ¬ (0 ≤ zs.getD k 0 ∧ zs.getD k 0 < n ∧ bs.getD (zs.getD k 0).toNat false = false)) : difOk zs n = false := by
  have := turnTo_none (turnTo_f h h') (zs.length - (k + 1))
  rw [show k + 1 + (zs.length - (k + 1)) = zs.length by omega] at this
  unfold difOk; rw [this]; rfl
theorem difOk_t {zs : List Int} {n : Int} {bs : List Bool} (h' : turnTo zs n zs.length = some bs) : difOk zs n = true := by unfold difOk; rw [h']; rfl
theorem differentOk_sound : Sound Tryz.prog 125 (fnS (ι := Nat × List Int × Int) (fun | (c, zs, n) => [.sl c zs.length (zs.map (.int .i64)), .int .i64 n]) (fun | (_, _, n) => 0 ≤ n ∧ n ≤ 1048576) (fun | (_, zs, n) => .bool (difOk zs n))) := by
  refine sound_of Tryz.func125 rfl (enters_of Tryz.func125 (by kernel_rfl) (by kernel_rfl)) ?_
  rintro ⟨c, zs, n⟩ hpre
  have hpre : 0 ≤ n ∧ n ≤ 1048576 := hpre
  have hmax : maxLen = 9223372036854775807 := rfl
  conv => whnf
  repeat' (first
    | (refine fun (_ : _ ≤ maxLen) => ?_; conv => whnf)
    | (refine append_same ?_; conv => whnf)
    | (refine And.intro (And.intro (Int.le_refl _) (And.intro (by kernel_rfl) (And.intro rfl (by kernel_rfl)))) (And.intro (And.intro (by omega) (And.intro (bytes_le (b := 1) rfl (by omega)) (by omega))) ?_); conv => whnf))
  refine loop_u (ι := Nat × List Bool) [false, true, false, false, false, true, false, false, false, false, true, true, true, false, false, false, false, false, false, false, false, false, false, false, false, false, false, false, false, false] (fun | (k, _) => [(12, .int .i64 k)]) (fun | (_, bs) => [(0, bs.map .bool)]) (fun | (k, bs) => k ≤ zs.length ∧ bs.length = n.toNat ∧ turnTo zs n k = some bs) (fun x => zs.length - x.1) ((0, List.replicate n.toNat false)) ⟨Nat.zero_le _, by simp, rfl⟩ ?_ ?_
  · conv => whnf
    repeat' (first
      | exact trivial
      | exact rfl
      | exact pureL_ints _ _
      | exact le_bools (rep_bools _)
      | refine And.intro ?_ ?_
      | exact Nat.le_of_ble_eq_true rfl)
  · rintro ⟨k, bs⟩ ⟨hk, hl, ht⟩
    have hk : k ≤ zs.length := hk
    have hl : bs.length = n.toNat := hl
    have ht : turnTo zs n k = some bs := ht
    conv => whnf
    repeat' (first
      | (refine aIf_t ?_; conv => whnf)
      | (refine aIf_f ?_; conv => whnf)
      | (refine get_nat (by omega) ?_; conv => whnf)
      | (refine And.intro (by omega) ?_; conv => whnf)
      | (refine callG_t ?_; conv => whnf)
      | (refine indexOk_call trivial ?_; conv => whnf)
      | (refine append_same ?_; conv => whnf)
      | (refine And.intro rfl (And.intro rfl (And.intro (by first | omega | (rw [List.length_map]; omega)) ?_)); conv => whnf)
      | (refine set_bool ?_ (by omega); conv => whnf)
      | (refine get_bool0 (by omega) ?_; conv => whnf)
      | refine aIf_eqf ?_
      | refine aIf_not ?_
      | (refine aIf_dec (fun _ => ?_) (fun _ => ?_) <;> conv => whnf)
      | (refine aIf_in (fun _ => ?_) (fun _ => ?_) <;> conv => whnf))
    all_goals (first
      | (exfalso; omega)
      | exact retS rfl (congrArg AV.bool (difOk_fk (k := k) (by omega) ht (by omega)).symm)
      | (rename_i hb; exact retS rfl (congrArg AV.bool (difOk_fk (k := k) (by omega) ht (by rw [hb]; simp)).symm))
      | (have e : k = zs.length := by omega
         subst e
         exact retS rfl (congrArg AV.bool (difOk_t ht).symm))
      | skip)
    rename_i hi hb
    refine next_u (k + 1, bs.set (zs.getD k 0).toNat true) (show zs.length - (k + 1) < zs.length - k by omega) ⟨(show k + 1 ≤ zs.length by omega), by simpa using hl, turnTo_next ht ⟨hi.1, hi.2, hb⟩⟩ ?_
    conv => whnf
    repeat' (first
      | exact trivial
      | exact rfl
      | exact pureL_ints _ _
      | exact le_bools rfl
      | refine And.intro ?_ ?_
      | exact Nat.le_of_ble_eq_true rfl
      | exact int_eq (by rw [IntWalk.i64_in _ (by omega)] <;> omega))
theorem differentOk_call {c : Nat} {zs : List Int} {n : Int} {env : List AV} {rows : List Row} {ctr low : Nat} {k : AV → St → Prop} (hpre : 0 ≤ n ∧ n ≤ 1048576) (h : k (.bool (difOk zs n)) ⟨env, rows, ctr + 1, low⟩) :
    CallB Tryz.prog 125 ⟨env, rows, ctr, low⟩ [.sl c zs.length (zs.map (.int .i64)), .int .i64 n] k := callS_in differentOk_sound (c, zs, n) hpre rfl h
set_option maxRecDepth 10000 in
theorem iTurnOk_sound : Sound Tryz.prog 121 sTurnOk := by
  refine sound_of Tryz.func121 rfl (enters_of Tryz.func121 (by kernel_rfl) (by kernel_rfl)) ?_
  rintro ⟨c, zs, n⟩ -
  by_cases hn : n ≤ 3 ∧ (zs.length : Int) = n
  · have h : turnOk zs n = difOk zs n := by unfold turnOk difOk; rw [decide_eq_true hn, Bool.true_and]
    conv => whnf
    repeat' (first
      | (refine aIf_t ?_; conv => whnf)
      | (refine aIf_f ?_; conv => whnf)
      | (refine fun (_ : _ ≤ maxLen) => ?_; conv => whnf)
      | (refine callG_t ?_; conv => whnf)
      | (refine differentOk_call (by first | omega | assumption | (refine ⟨?_, ?_⟩ <;> first | assumption | omega) | (refine ⟨?_, ?_, ?_⟩ <;> first | assumption | omega)) ?_; conv => whnf)
      | (refine append_same ?_; conv => whnf)
      | (refine And.intro (pureL_ints _ _) ?_; conv => whnf)
      | refine aIf_eqt ?_
      | (refine aIf_dec (fun _ => ?_) (fun _ => ?_) <;> conv => whnf))
    all_goals (first | (exfalso; omega) | exact retS rfl (congrArg AV.bool h.symm))
  · conv => whnf
    repeat' (first
      | (refine aIf_t ?_; conv => whnf)
      | (refine aIf_f ?_; conv => whnf)
      | (refine fun (_ : _ ≤ maxLen) => ?_; conv => whnf)
      | (refine And.intro (by omega) ?_; conv => whnf)
      | (refine callG_t ?_; conv => whnf)
      | (refine differentOk_call (by first | omega | assumption | (refine ⟨?_, ?_⟩ <;> first | assumption | omega) | (refine ⟨?_, ?_, ?_⟩ <;> first | assumption | omega)) ?_; conv => whnf)
      | (refine append_same ?_; conv => whnf)
      | refine aIf_eqt ?_
      | (refine aIf_dec (fun _ => ?_) (fun _ => ?_) <;> conv => whnf))
    all_goals (first | (exfalso; omega) | exact retS rfl (congrArg AV.bool (turnOk_f hn).symm))
theorem iTurnOk_call {c : Nat} {zs : List Int} {n : Int} {env : List AV} {rows : List Row} {ctr low : Nat} {k : AV → St → Prop} (h : k (.bool (turnOk zs n)) ⟨env, rows, ctr + 1, low⟩) :
    CallB Tryz.prog 121 ⟨env, rows, ctr, low⟩ [.sl c zs.length (zs.map (.int .i64)), .int .i64 n] k := callS_in iTurnOk_sound (c, zs, n) trivial rfl h

set_option maxRecDepth 10000 in
theorem sTurnOk_sound : Sound Tryz.prog 109 sTurnOk := by
  refine sound_of Tryz.func109 rfl (enters_of Tryz.func109 (by kernel_rfl) (by kernel_rfl)) ?_
  rintro ⟨c, zs, n⟩ -
  conv => whnf
  repeat' (first
    | (refine aIf_t ?_; conv => whnf)
    | (refine aIf_f ?_; conv => whnf)
    | (refine fun (_ : _ ≤ maxLen) => ?_; conv => whnf)
    | (refine append_same ?_; conv => whnf)
    | (refine And.intro (And.intro (Int.le_refl _) (And.intro (by kernel_rfl) (And.intro rfl (by kernel_rfl)))) (And.intro (And.intro (by omega) (And.intro (bytes_le (b := 1) rfl (by omega)) (by omega))) ?_); conv => whnf)
    | refine aIf_eqf ?_
    | refine aIf_not ?_
    | (refine aIf_dec (fun _ => ?_) (fun _ => ?_) <;> conv => whnf))
  · exact retS rfl (congrArg AV.bool (turnOk_f (by omega)).symm)
  · have hn' : n ≤ 3 ∧ (zs.length : Int) = n := by omega
    have hw : IntKind.i64.wrap (n - 1) = n - 1 := IntWalk.i64_in _ (by omega)
    refine loop_in (ι := Nat × List Bool) (fun | (k, bs) => ⟨[.sl c zs.length (zs.map (.int .i64)), .int .i64 n, .un, .un, .bool false, .ref 0 1 0 n.toNat, .int .i64 k, .un, .un, .un, .un, .un, .un, .un, .un, .un, .un, .un, .un, .un, .un, .un, .un, .un, .un, .un, .un, .un, .un, .un, .un, .un, .un, .un, .un, .un, .un, .un, .un, .un, .un, .un, .un, .un, .un], [⟨1, 4, 1, bs.map .bool⟩], 2, 0⟩)
      (fun x => x.1 ≤ zs.length ∧ x.2.length = n.toNat ∧ turnTo zs n x.1 = some x.2) (fun x => zs.length - x.1) (0, List.replicate n.toNat false) ⟨Nat.zero_le _, by simp, rfl⟩ ?_ ?_
    · repeat' (first
        | exact trivial
        | exact rfl
        | exact pureL_ints _ _
        | exact le_bools (rep_bools _)
        | refine And.intro ?_ ?_
        | exact Nat.le_of_ble_eq_true rfl)
    · rintro ⟨k, bs⟩ ⟨hk, hl, ht⟩
      have hk : k ≤ zs.length := hk
      have hl : bs.length = n.toNat := hl
      have ht : turnTo zs n k = some bs := ht
      conv => whnf
      repeat' (first
        | (refine aIf_t ?_; conv => whnf)
        | (refine aIf_f ?_; conv => whnf)
        | (refine get_nat (by omega) ?_; conv => whnf)
        | (refine And.intro (by omega) ?_; conv => whnf)
        | (refine callG_t ?_; conv => whnf)
        | (refine append_same ?_; conv => whnf)
        | (refine in_call ?_; conv => whnf)
        | (refine And.intro rfl (And.intro rfl (And.intro (by first | omega | (rw [List.length_map]; omega)) ?_)); conv => whnf)
        | (refine set_bool ?_ (by omega); conv => whnf)
        | (refine get_bool0 (by omega) ?_; conv => whnf)
        | refine aIf_eqf ?_
        | refine aIf_not ?_
        | (refine aIf_dec (fun _ => ?_) (fun _ => ?_) <;> conv => whnf)
        | (refine aIf_in (fun _ => ?_) (fun _ => ?_) <;> conv => whnf))
      · rename_i hb
        exact retS rfl (congrArg AV.bool (turnOk_fk (k := k) (by omega) ht (by rw [hb]; simp)).symm)
      · rename_i hb
        refine next_in (k + 1, bs.set (zs.getD k 0).toNat true) (show zs.length - (k + 1) < zs.length - k by omega) ⟨(show k + 1 ≤ zs.length by omega), by simpa using hl, turnTo_next ht ⟨by omega, by omega, hb⟩⟩ ?_
        have hmax : maxLen = 9223372036854775807 := rfl
        repeat' (first
          | exact trivial
          | exact rfl
          | exact pureL_ints _ _
          | exact le_bools rfl
          | refine And.intro ?_ ?_
          | exact Nat.le_of_ble_eq_true rfl
          | exact int_eq (by rw [IntWalk.i64_in _ (by omega)] <;> omega))
      · exact retS rfl (congrArg AV.bool (turnOk_fk (k := k) (by omega) ht (by omega)).symm)
      · have e : k = zs.length := by omega
        subst e
        exact retS rfl (congrArg AV.bool (turnOk_t hn' ht).symm)
  · exact retS rfl (congrArg AV.bool (turnOk_f (by omega)).symm)
theorem sTurnOk_call {c : Nat} {zs : List Int} {n : Int} {env : List AV} {rows : List Row} {ctr low : Nat} {k : AV → St → Prop} (h : k (.bool (turnOk zs n)) ⟨env, rows, ctr + 1, low⟩) :
    CallB Tryz.prog 109 ⟨env, rows, ctr, low⟩ [.sl c zs.length (zs.map (.int .i64)), .int .i64 n] k := callS_in sTurnOk_sound (c, zs, n) trivial rfl h
end Go.Proofs.YtpbenelmklggcaaGreat

/- TurnShape and BackTurn. -/
namespace Go.Proofs.YtpbenelmklggcaaGreat
set_option maxRecDepth 20000
open Go.RowKit Go.Am
attribute [local irreducible] aPlan aGet aIf aLoop aCall RetB NextB CallB CallG aCut aSet

theorem turnTo_in {zs : List Int} {n : Int} : ∀ {m : Nat} {bs : List Bool}, turnTo zs n m = some bs → ∀ k, k < m → 0 ≤ zs.getD k 0 ∧ zs.getD k 0 < n
  | 0, _, _, k, hk => absurd hk (Nat.not_lt_zero _)
  | m + 1, bs, h, k, hk => by
    unfold turnTo at h
    split at h
    · rename_i bs' h'
      split at h
      · rename_i hc
        rcases Nat.lt_succ_iff_lt_or_eq.1 hk with h1 | rfl
        · exact turnTo_in h' k h1
        · exact ⟨hc.1, hc.2.1⟩
      · cases h
    · cases h
theorem turnOk_in {zs : List Int} {n : Int} (h : turnOk zs n = true) : (n ≤ 3 ∧ (zs.length : Int) = n) ∧ ∀ k, k < zs.length → 0 ≤ zs.getD k 0 ∧ zs.getD k 0 < n := by
  unfold turnOk at h
  simp only [Bool.and_eq_true, decide_eq_true_iff] at h
  obtain ⟨bs, hb⟩ := Option.isSome_iff_exists.1 h.2
  exact ⟨h.1, turnTo_in hb⟩

/-- Where each axis goes. -/
def backTo (zs : List Int) : Nat → List Int
  | 0 => List.replicate zs.length 0
  | k + 1 => (backTo zs k).set (zs.getD k 0).toNat (k : Int)
theorem backTo_length (zs : List Int) : ∀ k, (backTo zs k).length = zs.length
  | 0 => by simp [backTo]
  | k + 1 => by simp [backTo, backTo_length zs k]
def backOk (zs : List Int) : Bool := turnOk zs zs.length
def backL (zs : List Int) : List Int := if backOk zs = true then backTo zs zs.length else []
theorem backL_t {zs : List Int} (h : turnOk zs zs.length = true) : backL zs = backTo zs zs.length := if_pos h
theorem backL_f {zs : List Int} (h : turnOk zs zs.length = false) : backL zs = [] := if_neg (by unfold backOk; rw [h]; decide)
theorem backL_le (zs : List Int) : (backL zs).length ≤ zs.length := by
  unfold backL; split
  · exact Nat.le_of_eq (backTo_length zs _)
  · exact Nat.zero_le _

def sBackTurn : CSpec := fnLB (ι := Nat × List Int) 3 (fun | (c, zs) => [.sl c zs.length (zs.map (.int .i64))]) (fun | (_, zs) => zs.length ≤ 1048576) (fun | (_, zs) => backL zs) (fun | (_, zs) => backOk zs)
theorem back_end {env : List AV} {rows : List Row} {ctr τ ver : Nat} {zs zs' : List Int} {b : Bool} {r : Row} {n : Nat} (e1 : backL zs = zs') (hr : rows[τ]? = some r) (hv : r.ver = ver) (e : r = ⟨ver, 3, 1, zs'.map (.int .i64)⟩) (hn : n = zs'.length) (hb : b = backOk zs) :
    RetB ⟨env, rows, ctr, 0⟩ [] (fun r ic news => r = .tup [.ref 0 0 0 (backL zs).length, .bool (backOk zs)] ∧ ic = [] ∧ news = [⟨0, 3, 1, (backL zs).map (.int .i64)⟩]) (.tup [.ref τ ver 0 n, .bool b]) := by
  rw [e1]; exact retLB hr hv e hn hb

end Go.Proofs.YtpbenelmklggcaaGreat

/- TurnShape. -/
namespace Go.Proofs.YtpbenelmklggcaaGreat
set_option maxRecDepth 20000
open Go.RowKit Go.Am
attribute [local irreducible] aPlan aGet aIf aLoop aCall RetB NextB CallB CallG aCut aSet

def turned (xs ax : List Int) : List Int := ax.map fun a => xs.getD a.toNat 0
theorem turned_length (xs ax : List Int) : (turned xs ax).length = ax.length := by simp [turned]
theorem turned_getD {xs ax : List Int} {j : Nat} (h : j < ax.length) : (turned xs ax).getD j 0 = xs.getD (ax.getD j 0).toNat 0 := by
  simp [turned, List.getD, List.getElem?_map, List.getElem?_eq_getElem h]
def tsOk (xs ax : List Int) : Bool := shapeOk xs && turnOk ax xs.length
def tsL (xs ax : List Int) : List Int := if tsOk xs ax = true then turned xs ax else []
theorem tsL_t {xs ax : List Int} (h : shapeOk xs = true) (h' : turnOk ax xs.length = true) : tsL xs ax = turned xs ax ∧ true = tsOk xs ax := ⟨if_pos (by unfold tsOk; rw [h, h']; rfl), by unfold tsOk; rw [h, h']; rfl⟩
theorem tsL_f1 {xs ax : List Int} (h : shapeOk xs = false) : tsL xs ax = [] ∧ false = tsOk xs ax := ⟨if_neg (by unfold tsOk; rw [h, Bool.false_and]; decide), by unfold tsOk; rw [h]; rfl⟩
theorem tsL_f2 {xs ax : List Int} (h' : turnOk ax xs.length = false) : tsL xs ax = [] ∧ false = tsOk xs ax := ⟨if_neg (by unfold tsOk; rw [h', Bool.and_false]; decide), by unfold tsOk; rw [h', Bool.and_false]⟩
theorem tsL_le (xs ax : List Int) : (tsL xs ax).length ≤ ax.length := by
  unfold tsL; split
  · exact Nat.le_of_eq (turned_length _ _)
  · exact Nat.zero_le _

def sTurnShape : CSpec := fnLB (ι := Nat × List Int × Nat × List Int) 3 (fun | (c, xs, d, ax) => [.sl c xs.length (xs.map (.int .i64)), .sl d ax.length (ax.map (.int .i64))]) (fun | (_, xs, _, ax) => xs.length ≤ 1048576 ∧ ax.length ≤ 1048576) (fun | (_, xs, _, ax) => tsL xs ax) (fun | (_, xs, _, ax) => tsOk xs ax)
theorem ts_end {env : List AV} {rows : List Row} {ctr τ ver : Nat} {xs ax zs' : List Int} {b : Bool} {r : Row} {n : Nat} (e1 : tsL xs ax = zs' ∧ b = tsOk xs ax) (hr : rows[τ]? = some r) (hv : r.ver = ver) (e : r = ⟨ver, 3, 1, zs'.map (.int .i64)⟩) (hn : n = zs'.length) :
    RetB ⟨env, rows, ctr, 0⟩ [] (fun r ic news => r = .tup [.ref 0 0 0 (tsL xs ax).length, .bool (tsOk xs ax)] ∧ ic = [] ∧ news = [⟨0, 3, 1, (tsL xs ax).map (.int .i64)⟩]) (.tup [.ref τ ver 0 n, .bool b]) := by
  rw [e1.1]; exact retLB hr hv e hn e1.2

theorem pickNums_sound : Sound Tryz.prog 85 (fnL (ι := Nat × List Int × Nat × List Int) 3 (fun | (c, xs, d, ax) => [.sl c xs.length (xs.map (.int .i64)), .sl d ax.length (ax.map (.int .i64))]) (fun | (_, xs, _, ax) => ax.length ≤ 1048576 ∧ ∀ j, j < ax.length → 0 ≤ ax.getD j 0 ∧ ax.getD j 0 < xs.length) (fun | (_, xs, _, ax) => turned xs ax)) := by
  refine sound_of Tryz.func85 rfl (enters_of Tryz.func85 (by kernel_rfl) (by kernel_rfl)) ?_
  rintro ⟨c, xs, d, ax⟩ hpre
  obtain ⟨hpl, hin⟩ : ax.length ≤ 1048576 ∧ ∀ j, j < ax.length → 0 ≤ ax.getD j 0 ∧ ax.getD j 0 < xs.length := hpre
  have hmax : maxLen = 9223372036854775807 := rfl
  conv => whnf
  repeat' (first
    | (refine fun (_ : _ ≤ maxLen) => ?_; conv => whnf)
    | (refine And.intro (And.intro (Int.le_refl _) (And.intro (by kernel_rfl) (And.intro rfl (by kernel_rfl)))) (And.intro (And.intro (by omega) (And.intro (bytes_le (b := 8) rfl (by omega)) (by omega))) ?_); conv => whnf)
    | (refine append_same ?_; conv => whnf))
  refine loop_u (ι := Nat × List Int) [true, false, false, false, false, true, false, false, false, false, false, true, true, true, false, false, false, false, false, false, false, false, false, false, false, false, false] (fun | (k, _) => [(13, .int .i64 k)]) (fun | (_, ws) => [(1, ws.map (.int .i64))]) (fun | (k, ws) => k ≤ ax.length ∧ ws.length = ax.length ∧ ∀ j, j < k → ws.getD j 0 = xs.getD (ax.getD j 0).toNat 0) (fun x => ax.length - x.1) ((0, List.replicate ax.length 0)) ⟨Nat.zero_le _, by simp, fun j hj => absurd hj (Nat.not_lt_zero _)⟩ ?_ ?_
  · conv => whnf
    repeat' (first
      | exact trivial
      | exact rfl
      | exact pureL_ints _ _
      | exact Or.inl (And.intro rfl rfl)
      | exact le_ints (rep_ints _ _)
      | refine And.intro ?_ ?_
      | exact Nat.le_of_ble_eq_true rfl)
  · rintro ⟨k, ws⟩ ⟨hk, hl, hall⟩
    have hk : k ≤ ax.length := hk
    have hl : ws.length = ax.length := hl
    have hall : ∀ j, j < k → ws.getD j 0 = xs.getD (ax.getD j 0).toNat 0 := hall
    have hink := hin k
    by_cases hlt : k < ax.length
    · have hink := hink hlt
      conv => whnf
      repeat' (first
        | (refine get_nat (by omega) ?_; conv => whnf)
        | (refine get_int (by omega) ?_; conv => whnf)
        | (refine And.intro (by omega) ?_; conv => whnf)
        | (refine append_same ?_; conv => whnf)
        | (refine And.intro rfl (And.intro rfl (And.intro (by first | omega | (rw [List.length_map]; omega)) ?_)); conv => whnf)
        | (refine set_nat ?_ (by omega); conv => whnf)
        | (refine aIf_dec (fun _ => ?_) (fun _ => ?_) <;> conv => whnf))
      all_goals (first | (exfalso; omega) | skip)
      refine next_u (k + 1, ws.set k (xs.getD (ax.getD k 0).toNat 0)) (show ax.length - (k + 1) < ax.length - k by omega) ⟨(show k + 1 ≤ ax.length by omega), by simpa using hl, fun j hj => ?_⟩ ?_
      · have hj : j < k + 1 := hj
        show (ws.set k (xs.getD (ax.getD k 0).toNat 0)).getD j 0 = _
        rw [getD_set (by omega)]
        split
        · rename_i e; rw [e]
        · exact hall j (by omega)
      · conv => whnf
        repeat' (first
          | exact trivial
          | exact rfl
          | exact pureL_ints _ _
          | exact Or.inl (And.intro rfl rfl)
          | exact le_ints rfl
          | refine And.intro ?_ ?_
          | exact Nat.le_of_ble_eq_true rfl
          | exact int_eq (by rw [IntWalk.i64_in _ (by omega)] <;> omega))
    · have e : k = ax.length := by omega
      have e : ws = turned xs ax := getD_ext (by rw [turned_length, hl]) fun j hj => by
        rw [turned_length] at hj
        rw [hall j (by omega), turned_getD hj]
      subst e
      conv => whnf
      repeat' (first
        | (refine get_nat (by omega) ?_; conv => whnf)
        | (refine And.intro (by omega) ?_; conv => whnf)
        | (refine append_same ?_; conv => whnf)
        | (refine set_nat ?_ (by omega); conv => whnf)
        | (refine aIf_dec (fun _ => ?_) (fun _ => ?_) <;> conv => whnf))
      all_goals (first | (exfalso; omega) | skip)
      exact retL rfl rfl rfl hl.symm
theorem pickNums_call {c d : Nat} {xs ax : List Int} {env : List AV} {rows : List Row} {ctr low : Nat} {k : AV → St → Prop} (hpre : ax.length ≤ 1048576 ∧ ∀ j, j < ax.length → 0 ≤ ax.getD j 0 ∧ ax.getD j 0 < xs.length) (h : k (.ref rows.length ctr 0 (turned xs ax).length) ⟨env, rows ++ [⟨ctr, 3, 1, (turned xs ax).map (.int .i64)⟩], ctr + 1, low⟩) :
    CallB Tryz.prog 85 ⟨env, rows, ctr, low⟩ [.sl c xs.length (xs.map (.int .i64)), .sl d ax.length (ax.map (.int .i64))] k := callL_in pickNums_sound (c, xs, d, ax) hpre h
set_option maxRecDepth 10000 in
theorem iTurnShape_sound : Sound Tryz.prog 114 sTurnShape := by
  refine sound_of Tryz.func114 rfl (enters_of Tryz.func114 (by kernel_rfl) (by kernel_rfl)) ?_
  rintro ⟨c, xs, d, ax⟩ hpre
  have hpre : xs.length ≤ 1048576 ∧ ax.length ≤ 1048576 := hpre
  cases hs : shapeOk xs with
  | false =>
    conv => whnf
    repeat' (first
      | (refine aIf_t ?_; conv => whnf)
      | (refine aIf_f ?_; conv => whnf)
      | (refine callG_t ?_; conv => whnf)
      | (refine append_same ?_; conv => whnf)
      | (refine And.intro (pureL_ints _ _) ?_; conv => whnf)
      | (refine iShapeOk_call ?_; conv => whnf)
      | (refine aIf_ff (by assumption) ?_; conv => whnf)
      | refine aIf_eqf ?_
      | refine aIf_not ?_)
    exact ts_end (tsL_f1 hs) rfl rfl rfl rfl
  | true =>
    cases ht : turnOk ax xs.length with
    | false =>
      conv => whnf
      repeat' (first
        | (refine aIf_t ?_; conv => whnf)
        | (refine aIf_f ?_; conv => whnf)
        | (refine fun (_ : _ ≤ maxLen) => ?_; conv => whnf)
        | (refine callG_t ?_; conv => whnf)
        | (refine append_same ?_; conv => whnf)
        | (refine And.intro (pureL_ints _ _) ?_; conv => whnf)
        | (refine iShapeOk_call ?_; conv => whnf)
        | (refine iTurnOk_call ?_; conv => whnf)
        | (refine aIf_tt (by assumption) ?_; conv => whnf)
        | (refine aIf_ff (by assumption) ?_; conv => whnf)
        | refine aIf_eqf ?_
        | refine aIf_not ?_)
      exact ts_end (tsL_f2 ht) rfl rfl rfl rfl
    | true =>
      have hin := (turnOk_in ht).2
      conv => whnf
      repeat' (first
        | (refine aIf_t ?_; conv => whnf)
        | (refine aIf_f ?_; conv => whnf)
        | (refine fun (_ : _ ≤ maxLen) => ?_; conv => whnf)
        | (refine callG_t ?_; conv => whnf)
        | (refine pickNums_call (by first | omega | assumption | (refine ⟨?_, ?_⟩ <;> first | assumption | omega) | (refine ⟨?_, ?_, ?_⟩ <;> first | assumption | omega)) ?_; conv => whnf)
        | (refine append_same ?_; conv => whnf)
        | (refine And.intro (pureL_ints _ _) ?_; conv => whnf)
        | (refine iShapeOk_call ?_; conv => whnf)
        | (refine iTurnOk_call ?_; conv => whnf)
        | (refine aIf_tt (by assumption) ?_; conv => whnf)
        | refine aIf_eqf ?_
        | refine aIf_not ?_)
      exact ts_end (tsL_t hs ht) rfl rfl rfl rfl

end Go.Proofs.YtpbenelmklggcaaGreat

/- l1Turn. -/
namespace Go.Proofs.YtpbenelmklggcaaGreat
set_option maxRecDepth 20000
open Go.RowKit Go.Am
theorem append_int {env : List AV} {rows : List Row} {ctr low τ ver n τ2 ver2 : Nat} {zs : List Int} {z : Int} {k : AV → St → Prop} (hr : rows[τ]? = some ⟨ver, 3, 1, zs.map (.int .i64)⟩) (hr2 : rows[τ2]? = some ⟨ver2, 3, 1, [.int .i64 z]⟩) (hn : n = zs.length) (hle : n ≤ 1000000) (hlow : low ≤ τ)
    (hk : k (.ref τ ctr 0 (n + 1)) ⟨env, rows.set τ ⟨ctr, 3, 1, (zs ++ [z]).map (.int .i64)⟩, ctr + 1, low⟩) : aAppend Tryz.prog ⟨env, rows, ctr, low⟩ 46 (.ref τ ver 0 n) (.ref τ2 ver2 0 1) k := by
  have hb : (bsz Tryz.prog 3) = some 8 := by kernel_rfl
  have hz : zeroCellsA Tryz.prog 3 = some [.int .i64 0] := by kernel_rfl
  have hu : Tryz.prog.underlying 46 = some (.slice 3) := by kernel_rfl
  have hs : ∀ K : Nat → Prop, K 1 → aSz Tryz.prog 3 K := fun K h => by
    have : tsz Tryz.prog 3 = some 1 := by kernel_rfl
    unfold aSz; rw [this]; exact h
  unfold aAppend
  rw [hu]
  simp only
  rw [hz]
  simp only
  refine hs _ ?_
  unfold aElems aRow
  simp only [hr2]
  rw [if_pos trivial, if_pos (.inr trivial)]
  refine ⟨⟨Nat.le_refl _, rfl⟩, ⟨rfl, by rw [hb]; rfl, by rw [hb]; decide⟩, ?_⟩
  simp only [hr]
  rw [if_pos trivial, if_pos (by simp)]
  refine ⟨by simp [hn], fun h => absurd h (by decide), fun _ h => ?_, fun _ _ => ⟨hlow, by rw [hb]; simp only [Option.getD_some]; omega, ?_⟩⟩
  · exfalso; simp at h; omega
  · have e : (zs.map (AV.int .i64)).take n = zs.map (.int .i64) := List.take_of_length_le (by simp [hn])
    simpa [e] using hk
attribute [local irreducible] aPlan aGet aIf aLoop aCall RetB NextB CallB CallG aCut aSet aAppend

theorem take_next {l : List Int} {k : Nat} (h : k < l.length) : l.take k ++ [l.getD k 0] = l.take (k + 1) := by
  rw [List.take_add_one, List.getElem?_eq_getElem h]
  simp [List.getD, List.getElem?_eq_getElem h]

set_option maxRecDepth 10000 in
theorem l1Turn_sound : Sound Tryz.prog 52 (fnL (ι := Nat × List Int × Nat × List Int) 3 (fun | (c, xs, d, ax) => [.sl c xs.length (xs.map (.int .i64)), .sl d ax.length (ax.map (.int .i64))]) (fun | (_, xs, _, ax) => ax.length ≤ 3 ∧ ∀ k, k < ax.length → 0 ≤ ax.getD k 0 ∧ ax.getD k 0 < xs.length) (fun | (_, xs, _, ax) => turned xs ax)) := by
  refine sound_of Tryz.func52 rfl (enters_of Tryz.func52 (by kernel_rfl) (by kernel_rfl)) ?_
  rintro ⟨c, xs, d, ax⟩ ⟨h3, hin⟩
  conv => whnf
  repeat' (first
    | (refine append_same ?_; conv => whnf)
    | (refine And.intro (And.intro (by kernel_rfl) (And.intro rfl (Nat.le_of_ble_eq_true rfl))) ?_; conv => whnf))
  refine loop_in (ι := Nat) (fun k => ⟨[.sl c xs.length (xs.map (.int .i64)), .sl d ax.length (ax.map (.int .i64)), .un, .un, .un, .ref 1 3 0 k, .int .i64 k, .un, .un, .un, .un, .un, .un, .un, .un, .un, .un, .un, .un, .un, .un, .un, .un, .un, .un], [⟨1, 3, 1, []⟩, ⟨3, 3, 1, ((turned xs ax).take k).map (.int .i64)⟩], 4, 0⟩)
    (fun k => k ≤ ax.length) (fun k => ax.length - k) 0 (Nat.zero_le _) ?_ ?_
  · repeat' (first
      | exact trivial
      | exact rfl
      | exact pureL_ints _ _
      | exact Or.inl (And.intro rfl rfl)
      | refine And.intro ?_ ?_
      | exact Nat.le_of_ble_eq_true rfl)
  · intro k hk
    have hk : k ≤ ax.length := hk
    have hin := hin k
    conv => whnf
    repeat' (first
      | (refine fun (_ : _ ≤ maxLen) => ?_; conv => whnf)
      | (refine get_nat (by omega) ?_; conv => whnf)
      | (refine get_int (by omega) ?_; conv => whnf)
      | (refine And.intro (by omega) ?_; conv => whnf)
      | (refine append_same ?_; conv => whnf)
      | (refine append_int rfl rfl (by first | rfl | (simp only [List.length_take, turned_length]; omega)) (by omega) (Nat.le_of_ble_eq_true rfl) ?_; conv => whnf)
      | (refine And.intro (And.intro (by kernel_rfl) (And.intro rfl (Nat.le_of_ble_eq_true rfl))) ?_; conv => whnf)
      | (refine aIf_dec (fun _ => ?_) (fun _ => ?_) <;> conv => whnf))
    · have e := take_next (l := turned xs ax) (k := k) (by rw [turned_length]; omega)
      rw [turned_getD (by omega)] at e
      rw [e]
      refine next_in (k + 1) (show ax.length - (k + 1) < ax.length - k by omega) (by omega) ?_
      repeat' (first
        | exact trivial
        | exact rfl
        | exact pureL_ints _ _
        | exact Or.inl (And.intro rfl rfl)
        | exact le_ints rfl
        | refine And.intro ?_ ?_
        | exact Nat.le_of_ble_eq_true rfl
        | exact int_eq (by rw [IntWalk.i64_in _ (by omega)] <;> omega))
    · have e : k = ax.length := by omega
      subst e
      have e : (turned xs ax).take ax.length = turned xs ax := List.take_of_length_le (by rw [turned_length]; exact Nat.le_refl _)
      rw [e]
      exact retL rfl rfl rfl (turned_length xs ax).symm
theorem l1Turn_call {c d : Nat} {xs ax : List Int} {env : List AV} {rows : List Row} {ctr low : Nat} {k : AV → St → Prop} (hpre : ax.length ≤ 3 ∧ ∀ k, k < ax.length → 0 ≤ ax.getD k 0 ∧ ax.getD k 0 < xs.length) (hk : k (.ref rows.length ctr 0 (turned xs ax).length) ⟨env, rows ++ [⟨ctr, 3, 1, (turned xs ax).map (.int .i64)⟩], ctr + 1, low⟩) :
    CallB Tryz.prog 52 ⟨env, rows, ctr, low⟩ [.sl c xs.length (xs.map (.int .i64)), .sl d ax.length (ax.map (.int .i64))] k := callL_in l1Turn_sound (c, xs, d, ax) hpre hk

set_option maxRecDepth 10000 in
theorem sTurnShape_sound : Sound Tryz.prog 91 sTurnShape := by
  refine sound_of Tryz.func91 rfl (enters_of Tryz.func91 (by kernel_rfl) (by kernel_rfl)) ?_
  rintro ⟨c, xs, d, ax⟩ hpre
  have hpre : xs.length ≤ 1048576 ∧ ax.length ≤ 1048576 := hpre
  by_cases ht : turnOk ax xs.length = true
  · have hin := turnOk_in ht
    have h3 : ax.length ≤ 3 := by omega
    have hcall := And.intro h3 hin.2
    conv => whnf
    repeat' (first
      | (refine aIf_t ?_; conv => whnf)
      | (refine aIf_f ?_; conv => whnf)
      | (refine fun (_ : _ ≤ maxLen) => ?_; conv => whnf)
      | (refine callG_t ?_; conv => whnf)
      | (refine append_same ?_; conv => whnf)
      | (refine And.intro (pureL_ints _ _) ?_; conv => whnf)
      | (refine sShapeOk_call ?_; conv => whnf)
      | (refine l1Turn_call (by assumption) ?_; conv => whnf)
      | (refine sTurnOk_call ?_; conv => whnf)
      | (refine aIf_tt (by assumption) ?_; conv => whnf)
      | refine aIf_eqf ?_
      | refine aIf_not ?_
      | (refine aIf_in (fun _ => ?_) (fun _ => ?_) <;> conv => whnf))
    all_goals (first
      | (rename_i h; rw [ht] at h; exact Bool.noConfusion h)
      | exact ts_end (tsL_t (by assumption) ht) rfl rfl rfl rfl
      | exact ts_end (tsL_f1 (by assumption)) rfl rfl rfl rfl)
  · have ht : turnOk ax xs.length = false := by simpa using ht
    conv => whnf
    repeat' (first
      | (refine aIf_t ?_; conv => whnf)
      | (refine aIf_f ?_; conv => whnf)
      | (refine fun (_ : _ ≤ maxLen) => ?_; conv => whnf)
      | (refine callG_t ?_; conv => whnf)
      | (refine append_same ?_; conv => whnf)
      | (refine And.intro (pureL_ints _ _) ?_; conv => whnf)
      | (refine sShapeOk_call ?_; conv => whnf)
      | (refine sTurnOk_call ?_; conv => whnf)
      | (refine aIf_ff (by assumption) ?_; conv => whnf)
      | refine aIf_eqf ?_
      | refine aIf_not ?_
      | (refine aIf_in (fun _ => ?_) (fun _ => ?_) <;> conv => whnf))
    all_goals (first
      | (rename_i h; rw [ht] at h; exact Bool.noConfusion h)
      | exact ts_end (tsL_f2 ht) rfl rfl rfl rfl)

theorem iTurnShape_call {c d : Nat} {xs ax : List Int} {env : List AV} {rows : List Row} {ctr low : Nat} {k : AV → St → Prop} (hpre : xs.length ≤ 1048576 ∧ ax.length ≤ 1048576) (hk : k (.tup [.ref rows.length ctr 0 (tsL xs ax).length, .bool (tsOk xs ax)]) ⟨env, rows ++ [⟨ctr, 3, 1, (tsL xs ax).map (.int .i64)⟩], ctr + 1, low⟩) :
    CallB Tryz.prog 114 ⟨env, rows, ctr, low⟩ [.sl c xs.length (xs.map (.int .i64)), .sl d ax.length (ax.map (.int .i64))] k := callLB_in iTurnShape_sound (c, xs, d, ax) hpre hk
theorem sTurnShape_call {c d : Nat} {xs ax : List Int} {env : List AV} {rows : List Row} {ctr low : Nat} {k : AV → St → Prop} (hpre : xs.length ≤ 1048576 ∧ ax.length ≤ 1048576) (hk : k (.tup [.ref rows.length ctr 0 (tsL xs ax).length, .bool (tsOk xs ax)]) ⟨env, rows ++ [⟨ctr, 3, 1, (tsL xs ax).map (.int .i64)⟩], ctr + 1, low⟩) :
    CallB Tryz.prog 91 ⟨env, rows, ctr, low⟩ [.sl c xs.length (xs.map (.int .i64)), .sl d ax.length (ax.map (.int .i64))] k := callLB_in sTurnShape_sound (c, xs, d, ax) hpre hk
end Go.Proofs.YtpbenelmklggcaaGreat
