import Derived.Test.YtjmdhfjemaoebaaGreatM0x15
import Derived.Test.YtjmdhfjemaoebaaGreatM0x12
namespace Go.Proofs.YtjmdhfjemaoebaaGreat
set_option maxRecDepth 20000
open Go.RowKit Go.Am
attribute [local irreducible] aPlan aGet aIf aLoop aCall RetB NextB CallB CallG aCut aSet aAppend
abbrev leftOf (zs : List Int) (m : Int) (r : AV) (news : List Row) : Prop := ∃ n : Int, r = .int .i64 n ∧ news = [] ∧ (n < 0 ∨ (0 ≤ n ∧ n = m - zs.length))
set_option maxRecDepth 10000 in
theorem szIntS_sound : Sound Tryz.prog 63 (fnP (ι := Nat × List Int × Int) (fun | (c, zs, m) => [.sl c zs.length (zs.map (.int .i64)), .int .i64 m]) (fun | (_, _, m) => 0 ≤ m ∧ m ≤ 1048576) (fun | (_, zs, m) => leftOf zs m)) := by
  refine sound_of Tryz.func63 rfl (enters_of Tryz.func63 (by kernel_rfl) (by kernel_rfl)) ?_
  rintro ⟨c, zs, m⟩ hpre
  have hpre : 0 ≤ m ∧ m ≤ 1048576 := hpre
  have hmax : maxLen = 9223372036854775807 := rfl
  conv => whnf
  repeat' (first
    | ((first | refine fun (_ : _ ≤ maxLen) => ?_ | refine append_same ?_); conv => whnf) | (refine aIf_dec (fun _ => ?_) (fun _ => ?_) <;> conv => whnf))
  · exact retP1 (L := []) (by simp) rfl rfl ⟨_, rfl, rfl, .inl (by decide)⟩
  · rename_i h1 h2
    rw [IntWalk.i64_in (m - zs.length) (by omega)] at h2
    exact retP1 (L := []) (by simp) rfl rfl ⟨_, rfl, rfl, .inr (by rw [IntWalk.i64_in _ (by omega)]; omega)⟩
theorem szIntS_call {c : Nat} {zs : List Int} {m : Int} {env : List AV} {rows : List Row} {ctr low : Nat} {k : AV → St → Prop} (hpre : 0 ≤ m ∧ m ≤ 1048576) (hk : ∀ n : Int, (n < 0 ∨ (0 ≤ n ∧ n = m - zs.length)) → k (.int .i64 n) ⟨env, rows, ctr + 1, low⟩) :
    CallB Tryz.prog 63 ⟨env, rows, ctr, low⟩ [.sl c zs.length (zs.map (.int .i64)), .int .i64 m] k := callP_in szIntS_sound (c, zs, m) hpre (by
  rintro r news ⟨n, rfl, rfl, h⟩
  simpa [AV.back, St.news] using hk n h)
end Go.Proofs.YtjmdhfjemaoebaaGreat
namespace Go.Proofs.YtjmdhfjemaoebaaGreat
set_option maxRecDepth 20000
open Go.RowKit Go.Am
attribute [local irreducible] aPlan aGet aIf aLoop aCall RetB NextB CallB CallG aCut aSet
def placeOk (xs ps : List Int) : Bool := shapeOk xs && (decide (ps.length = xs.length) && (List.range xs.length).all fun j => decide (0 ≤ ps.getD j 0 ∧ ps.getD j 0 < xs.getD j 0))
def idxTo (xs ps : List Int) : Nat → Int
  | 0 => 0
  | k + 1 => IntKind.i64.wrap (IntKind.i64.wrap (idxTo xs ps k * xs.getD k 0) + ps.getD k 0)
def indexAt (xs ps : List Int) : Int := if placeOk xs ps = true then idxTo xs ps xs.length else -1
end Go.Proofs.YtjmdhfjemaoebaaGreat
namespace Go.Proofs.YtjmdhfjemaoebaaGreat
set_option maxRecDepth 20000
open Go.RowKit Go.Am
attribute [local irreducible] aPlan aGet aIf aLoop aCall RetB NextB CallB CallG aCut aSet aAppend
theorem cnt_bound {xs : List Int} (h : shapeOk xs = true) : ∀ k, k ≤ xs.length → 1 ≤ cntTo xs k ∧ cntTo xs k ≤ 4 ^ k
  | 0, _ => ⟨Int.le_refl _, Int.le_refl _⟩
  | k + 1, hk => by
    obtain ⟨h1, h2⟩ := cnt_bound h k (by omega)
    obtain ⟨h3, h4⟩ := (shapeOk_iff xs).1 h
    obtain ⟨h5, h6⟩ := (okSize_iff _).1 (h4 k (by omega))
    have hp : (4 : Int) ^ k ≤ 16 := by
      have : k ≤ 2 := by omega
      rcases k with _ | _ | _ | k
      · decide
      · decide
      · decide
      · omega
    have a1 : 1 * 1 ≤ cntTo xs k * xs.getD k 0 := Int.mul_le_mul h1 h5 (by decide) (by omega)
    have a2 : cntTo xs k * xs.getD k 0 ≤ 4 ^ k * 4 := Int.mul_le_mul h2 h6 (by omega) (by omega)
    have a3 : cntTo xs (k + 1) = cntTo xs k * xs.getD k 0 := by
      show IntKind.i64.wrap _ = _
      exact IntWalk.i64_in _ (by omega)
    rw [a3, Int.pow_succ]
    exact ⟨by omega, a2⟩
def quoT (zs : List Int) (i : Int) : Nat → Int
  | 0 => i
  | m + 1 => IntKind.i64.wrap ((quoT zs i m).tdiv (zs.getD (zs.length - 1 - m) 0))
theorem quoT_next {zs : List Int} {i : Int} {q : Nat} (h : q + 1 ≤ zs.length) : quoT zs i (zs.length - q) = IntKind.i64.wrap ((quoT zs i (zs.length - (q + 1))).tdiv (zs.getD q 0)) := by
  have e : zs.length - q = (zs.length - (q + 1)) + 1 := by omega
  rw [e, quoT]
  congr 3; omega
def places (zs : List Int) (i : Int) : List Int := (List.range zs.length).map fun j => (quoT zs i (zs.length - 1 - j)).tmod (zs.getD j 0)
theorem places_getD {zs : List Int} {i : Int} {j : Nat} (h : j < zs.length) : (places zs i).getD j 0 = (quoT zs i (zs.length - 1 - j)).tmod (zs.getD j 0) := by
  simp [places, List.getD, List.getElem?_map, List.getElem?_range h]
end Go.Proofs.YtjmdhfjemaoebaaGreat
