/- All shapes that there are. -/
import Derived.Test.YtegoncendpboiaaS10
namespace Go.Proofs.Ytegoncendpboiaa
set_option maxRecDepth 20000
open Go.RowKit Go.Am

def sizes : List Int := [1, 2, 3, 4]
def shapes3 (a : Int) : List (List Int) := sizes.flatMap fun b => sizes.map fun c => [a, b, c]
def shapes2 : List (List Int) := [] :: (sizes.map fun a => [a]) ++ (sizes.flatMap fun a => sizes.map fun b => [a, b])
theorem size_mem {z : Int} (h : 1 ≤ z ∧ z ≤ 4) : z ∈ sizes := by
  have : z = 1 ∨ z = 2 ∨ z = 3 ∨ z = 4 := by omega
  simpa [sizes] using this
theorem shape_all {p : List Int → Bool} (h2 : shapes2.all p = true) (h31 : (shapes3 1).all p = true) (h32 : (shapes3 2).all p = true) (h33 : (shapes3 3).all p = true) (h34 : (shapes3 4).all p = true) {xs : List Int} (h : shapeOk xs = true) : p xs = true := by
  have hl := ((shapeOk_iff xs).1 h).1
  have hs : ∀ z ∈ xs, z ∈ sizes := fun z hz => by
    obtain ⟨j, hj, rfl⟩ := List.mem_iff_getElem.1 hz
    have := size_in h hj
    simp only [List.getD, List.getElem?_eq_getElem hj, Option.getD_some] at this
    exact size_mem this
  rw [List.all_eq_true] at h2 h31 h32 h33 h34
  match xs, hl, hs with
  | [], _, _ => exact h2 _ (by simp [shapes2])
  | [a], _, hs =>
    have ha := hs a (by simp)
    exact h2 _ (by simp [shapes2, ha])
  | [a, b], _, hs =>
    have ha := hs a (by simp)
    have hb := hs b (by simp)
    exact h2 _ (by simp [shapes2, ha, hb])
  | [a, b, c], _, hs =>
    have ha := hs a (by simp)
    have hb := hs b (by simp)
    have hc := hs c (by simp)
    have hm : [a, b, c] ∈ shapes3 a := by
      unfold shapes3
      rw [List.mem_flatMap]
      exact ⟨b, hb, List.mem_map.2 ⟨c, hc, rfl⟩⟩
    have h4 : a = 1 ∨ a = 2 ∨ a = 3 ∨ a = 4 := by simpa [sizes] using ha
    rcases h4 with rfl | rfl | rfl | rfl
    · exact h31 _ hm
    · exact h32 _ hm
    · exact h33 _ hm
    · exact h34 _ hm
  | _ :: _ :: _ :: _ :: _, hl, _ => simp only [List.length_cons] at hl; omega
end Go.Proofs.Ytegoncendpboiaa
