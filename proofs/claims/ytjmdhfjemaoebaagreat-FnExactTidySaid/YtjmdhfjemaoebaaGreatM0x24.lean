import Derived.Test.YtjmdhfjemaoebaaGreatM0x23
import Derived.Test.YtjmdhfjemaoebaaGreatM0x18
import Derived.Test.YtjmdhfjemaoebaaGreatM0x22
namespace Go.Proofs.YtjmdhfjemaoebaaGreat
set_option maxRecDepth 20000
open Go.RowKit Go.Am
attribute [local irreducible] aPlan aGet aIf aLoop aCall RetB NextB CallB CallG aCut aSet aAppend
theorem iCutOf_call {c d : Nat} {xs zs : List Int} {i f m : Int} {env : List AV} {rows : List Row} {ctr low : Nat} {k : AV → St → Prop} (hpre : xs.length ≤ 1048576 ∧ (Lit.int .i64 f).wf = true ∧ (Lit.int .i64 m).wf = true)
    (hk : k (.tup [.agg [.ref rows.length ctr 0 (cutM xs zs i f m).1.length, .ref (rows.length + 1) ctr 0 (cutM xs zs i f m).2.1.length], .bool (cutM xs zs i f m).2.2]) ⟨env, rows ++ [⟨ctr, 3, 1, (cutM xs zs i f m).1.map (.int .i64)⟩, ⟨ctr, 3, 1, (cutM xs zs i f m).2.1.map (.int .i64)⟩], ctr + 1, low⟩) :
    CallB Tryz.prog 168 ⟨env, rows, ctr, low⟩ [.agg [.sl c xs.length (xs.map (.int .i64)), .sl d zs.length (zs.map (.int .i64))], .int .i64 i, .int .i64 f, .int .i64 m] k := callTB_in iCutOf_sound (c, xs, d, zs, i, f, m) hpre hk
end Go.Proofs.YtjmdhfjemaoebaaGreat
namespace Go.Proofs.YtjmdhfjemaoebaaGreat
set_option maxRecDepth 20000
open Go.RowKit Go.Am
attribute [local irreducible] aPlan aGet aIf aLoop aCall RetB NextB CallB CallG aCut aSet aAppend
end Go.Proofs.YtjmdhfjemaoebaaGreat
namespace Go.Proofs.YtjmdhfjemaoebaaGreat
set_option maxRecDepth 20000
open Go.RowKit Go.Am
attribute [local irreducible] aPlan aGet aIf aLoop aCall RetB NextB CallB CallG aCut aSet aAppend
def sst (xs ys : List Int) : List Int := (List.range ys.length).map fun j => if ys.length - xs.length ≤ j ∧ 1 < xs.getD (j - (ys.length - xs.length)) 0 then (strides xs).getD (j - (ys.length - xs.length)) 0 else 0
theorem sst_length (xs ys : List Int) : (sst xs ys).length = ys.length := by simp [sst]
theorem sst_getD {xs ys : List Int} {j : Nat} (h : j < ys.length) : (sst xs ys).getD j 0 = if ys.length - xs.length ≤ j ∧ 1 < xs.getD (j - (ys.length - xs.length)) 0 then (strides xs).getD (j - (ys.length - xs.length)) 0 else 0 := range_getD h
theorem sst_in {xs ys : List Int} (hs : shapeOk xs = true) (hl : xs.length ≤ ys.length) {j : Nat} (hj : j < ys.length) : 0 ≤ (sst xs ys).getD j 0 ∧ (sst xs ys).getD j 0 ≤ 64 := by
  rw [sst_getD hj]
  split
  · rename_i h
    have := strides_in hs (j := j - (ys.length - xs.length)) (by omega)
    omega
  · omega
theorem sst_dot0 {xs ys ps : List Int} (hl : xs.length ≤ ys.length) : ∀ k, k ≤ ys.length - xs.length → dotTo ps (sst xs ys) k = 0
  | 0, _ => rfl
  | k + 1, hk => by
    have ih := sst_dot0 (ps := ps) hl k (by omega)
    show dotTo ps (sst xs ys) k + _ = 0
    rw [ih]
    by_cases h : k < ys.length
    · rw [sst_getD h, if_neg (by omega), Int.mul_zero]; rfl
    · omega
theorem sst_dot {xs ys : List Int} {i : Int} (hl : xs.length ≤ ys.length) : ∀ k, k ≤ xs.length → dotTo (places ys i) (sst xs ys) (ys.length - xs.length + k) = dotTo (px xs ys i) (strides xs) k
  | 0, _ => sst_dot0 hl _ (Nat.le_refl _)
  | k + 1, hk => by
    have ih := sst_dot (i := i) hl k (by omega)
    have e1 : dotTo (places ys i) (sst xs ys) (ys.length - xs.length + (k + 1)) = dotTo (places ys i) (sst xs ys) (ys.length - xs.length + k) + (places ys i).getD (ys.length - xs.length + k) 0 * (sst xs ys).getD (ys.length - xs.length + k) 0 := rfl
    have e2 : dotTo (px xs ys i) (strides xs) (k + 1) = dotTo (px xs ys i) (strides xs) k + (px xs ys i).getD k 0 * (strides xs).getD k 0 := rfl
    rw [e1, e2, ih, sst_getD (by omega), px_getD (by omega), show ys.length - xs.length + k - (ys.length - xs.length) = k by omega]
    by_cases h : 1 < xs.getD k 0
    · rw [if_pos ⟨by omega, h⟩, if_pos h]
    · rw [if_neg (fun h' => h h'.2), if_neg h, Int.mul_zero, Int.zero_mul]
theorem sp_all {xs ys : List Int} (h : jOk xs ys = true) (h' : jL xs ys = ys) {i : Nat} (hi : (i : Int) < cntTo ys ys.length) : spOk xs ys i := ⟨h, h', by omega, hi⟩
theorem sp_rd {xs ys : List Int} (h : jOk xs ys = true) (h' : jL xs ys = ys) {i : Nat} (hi : (i : Int) < cntTo ys ys.length) : rdAt ys (sst xs ys) 0 i = idxTo xs (px xs ys i) xs.length ∧ 0 ≤ idxTo xs (px xs ys i) xs.length ∧ idxTo xs (px xs ys i) xs.length < cntTo xs xs.length := by
  have hsp := sp_all h h' hi
  obtain ⟨a1, a2, a3, a4⟩ := sp_ok hsp
  have hp : ∀ j, j < xs.length → 0 ≤ (px xs ys i).getD j 0 ∧ (px xs ys i).getD j 0 < xs.getD j 0 := fun j hj => ⟨(px_in hsp hj).1, (px_in hsp hj).2.1⟩
  refine ⟨?_, idx_range a1 hp _ (Nat.le_refl _)⟩
  have e := sst_dot (i := i) a3 xs.length (Nat.le_refl _)
  rw [show ys.length - xs.length + xs.length = ys.length by omega] at e
  show 0 + dotTo (places ys i) (sst xs ys) ys.length = _
  rw [e, idx_dot a1 hp, Int.zero_add]
def sSteps : CSpec := fnL (ι := Nat × List Int × Nat × List Int) 3 (fun | (c, xs, d, ys) => [.sl c xs.length (xs.map (.int .i64)), .sl d ys.length (ys.map (.int .i64))]) (fun | (_, xs, _, ys) => shapeOk xs = true ∧ ys.length ≤ 3 ∧ xs.length ≤ ys.length) (fun | (_, xs, _, ys) => sst xs ys)
set_option maxHeartbeats 4000000 in
set_option maxRecDepth 10000 in
theorem spreadSteps_sound : Sound Tryz.prog 180 sSteps := by
  refine sound_of Tryz.func180 rfl (enters_of Tryz.func180 (by kernel_rfl) (by kernel_rfl)) ?_
  rintro ⟨c, xs, d, ys⟩ hpre
  have hpre : shapeOk xs = true ∧ ys.length ≤ 3 ∧ xs.length ≤ ys.length := hpre
  obtain ⟨hs, hy, hxy⟩ := hpre
  have hso : stridesOf xs = strides xs := if_pos hs
  have hsl : (stridesOf xs).length = xs.length := by rw [hso, strides_length]
  have hmax : maxLen = 9223372036854775807 := rfl
  conv => whnf
  repeat' (first
    | ((first | refine fun (_ : _ ≤ maxLen) => ?_ | refine And.intro (And.intro (Int.le_refl _) (And.intro (by kernel_rfl) (And.intro rfl (by kernel_rfl)))) (And.intro (And.intro (by omega) (And.intro (bytes_le (b := 8) rfl (by omega)) (by omega))) ?_) | refine callG_t ?_ | refine append_same ?_ | refine And.intro (pureL_ints _ _) ?_ | refine iStridesOf_call (by omega) ?_); conv => whnf))
  refine loop_in (ι := Nat × List Int) (fun | (k, ws) => ⟨[.un, .un, .un, .un, .un, .ref 1 2 0 (stridesOf xs).length, .ref 2 3 0 ys.length, .int .i64 (ys.length - xs.length), .un, .un, .un, .un, .un, .un, .un, .un, .un, .un, .un, .un, .sl c xs.length (xs.map (.int .i64)), .int .i64 xs.length, .int .i64 k, .un, .un, .un, .un, .un, .un, .un, .un, .un, .un, .un, .un, .un, .un, .un, .un, .un], [nl 1, li 2 (stridesOf xs), li 3 ws], 4, 0⟩)
    (fun x => x.1 ≤ xs.length ∧ x.2.length = ys.length ∧ ∀ j, j < ys.length → x.2.getD j 0 = if j < ys.length - xs.length + x.1 then (sst xs ys).getD j 0 else 0) (fun x => xs.length - x.1) (0, List.replicate ys.length 0) ⟨Nat.zero_le _, by simp, fun j hj => ?_⟩ ?_ ?_
  · show (List.replicate ys.length (0 : Int)).getD j 0 = if j < ys.length - xs.length + 0 then (sst xs ys).getD j 0 else 0
    have e : (List.replicate ys.length (0 : Int)).getD j 0 = 0 := by simp [List.getD, hj]
    rw [e]
    split
    · rw [sst_getD hj, if_neg (by omega)]
    · rfl
  · repeat' (first
      | exact trivial | exact rfl
      | exact pureL_ints _ _ | exact Or.inl (And.intro rfl rfl)
      | exact le_ints rfl | exact le_ints (rep_ints _ _)
      | refine And.intro ?_ ?_ | exact Nat.le_of_ble_eq_true rfl
      | exact int_eq (by rw [IntWalk.i64_in _ (by omega)] <;> omega))
  · rintro ⟨k, ws⟩ ⟨hk, hl, hall⟩
    have hk : k ≤ xs.length := hk
    have hl : ws.length = ys.length := hl
    have hall : ∀ j, j < ys.length → ws.getD j 0 = if j < ys.length - xs.length + k then (sst xs ys).getD j 0 else 0 := hall
    have hw : IntKind.i64.wrap ((ys.length : Int) - xs.length + k) = ys.length - xs.length + k := IntWalk.i64_in _ (by omega)
    have ew : (IntKind.i64.wrap ((ys.length : Int) - xs.length + k)).toNat = ys.length - xs.length + k := by omega
    conv => whnf
    repeat' (first
      | ((first | refine get_nat0 (by omega) ?_ | refine get_nat (by omega) ?_ | refine And.intro (by omega) ?_ | refine append_same ?_ | refine And.intro rfl (And.intro rfl (And.intro (by first | omega | (rw [List.length_map]; omega)) ?_)) | refine set_int ?_ (by omega)); conv => whnf) | (refine aIf_dec (fun _ => ?_) (fun _ => ?_) <;> conv => whnf))
    · rename_i hlt hx
      rw [ew]
      refine next_in (k + 1, ws.set (ys.length - xs.length + k) ((stridesOf xs).getD k 0)) (show xs.length - (k + 1) < xs.length - k by omega) ⟨(show k + 1 ≤ xs.length by omega), by simpa using hl, fun j hj => ?_⟩ ?_
      · show (ws.set (ys.length - xs.length + k) ((stridesOf xs).getD k 0)).getD j 0 = if j < ys.length - xs.length + (k + 1) then (sst xs ys).getD j 0 else 0
        rw [getD_set (by omega)]
        split
        · rename_i e
          subst e
          rw [if_pos (by omega), sst_getD hj, show ys.length - xs.length + k - (ys.length - xs.length) = k by omega, if_pos ⟨by omega, by omega⟩, hso]
        · rw [hall j hj]
          split
          · rw [if_pos (by omega)]
          · rw [if_neg (by omega)]
      · repeat' (first
          | exact trivial | exact rfl
          | exact pureL_ints _ _ | exact Or.inl (And.intro rfl rfl)
          | exact le_ints rfl | refine And.intro ?_ ?_
          | exact Nat.le_of_ble_eq_true rfl | exact int_eq (by rw [IntWalk.i64_in _ (by omega)] <;> omega))
    · rename_i hlt hx
      refine next_in (k + 1, ws) (show xs.length - (k + 1) < xs.length - k by omega) ⟨(show k + 1 ≤ xs.length by omega), hl, fun j hj => ?_⟩ ?_
      · show ws.getD j 0 = if j < ys.length - xs.length + (k + 1) then (sst xs ys).getD j 0 else 0
        rw [hall j hj]
        by_cases e : j = ys.length - xs.length + k
        · subst e
          rw [if_neg (by omega), if_pos (by omega), sst_getD hj, show ys.length - xs.length + k - (ys.length - xs.length) = k by omega, if_neg (by omega)]
        · split
          · rw [if_pos (by omega)]
          · rw [if_neg (by omega)]
      · repeat' (first
          | exact trivial | exact rfl
          | exact pureL_ints _ _ | exact Or.inl (And.intro rfl rfl)
          | exact le_ints rfl | refine And.intro ?_ ?_
          | exact Nat.le_of_ble_eq_true rfl | exact int_eq (by rw [IntWalk.i64_in _ (by omega)] <;> omega))
    · have e : ws = sst xs ys := getD_ext (by rw [sst_length, hl]) fun j hj => by
        rw [sst_length] at hj
        rw [hall j hj, if_pos (by omega)]
      subst e
      exact retL rfl rfl rfl (sst_length _ _).symm
theorem spreadSteps_call {c d : Nat} {xs ys : List Int} {env : List AV} {rows : List Row} {ctr low : Nat} {k : AV → St → Prop} (hpre : shapeOk xs = true ∧ ys.length ≤ 3 ∧ xs.length ≤ ys.length) (h : k (.ref rows.length ctr 0 (sst xs ys).length) ⟨env, rows ++ [⟨ctr, 3, 1, (sst xs ys).map (.int .i64)⟩], ctr + 1, low⟩) :
    CallB Tryz.prog 180 ⟨env, rows, ctr, low⟩ [.sl c xs.length (xs.map (.int .i64)), .sl d ys.length (ys.map (.int .i64))] k := callL_in spreadSteps_sound (c, xs, d, ys) hpre h
end Go.Proofs.YtjmdhfjemaoebaaGreat
namespace Go.Proofs.YtjmdhfjemaoebaaGreat
set_option maxRecDepth 20000
open Go.RowKit Go.Am
attribute [local irreducible] aPlan aGet aIf aLoop aCall RetB NextB CallB CallG aCut aSet aAppend
end Go.Proofs.YtjmdhfjemaoebaaGreat
