import Derived.Test.YtjmdhfjemaoebaaGreatM01x13
import Derived.Test.YtjmdhfjemaoebaaGreatM01x14
import Derived.Test.YtjmdhfjemaoebaaGreatM01x12
namespace Go.Proofs.YtjmdhfjemaoebaaGreat
set_option maxRecDepth 20000
open Go.RowKit Go.Am
attribute [local irreducible] aPlan aGet aIf aLoop aCall RetB NextB CallB CallG aCut aSet aAppend
def sSame : CSpec := fnS (ι := Nat × List Int × Nat × List Int) (fun | (c, xs, d, ys) => [.sl c xs.length (xs.map (.int .i64)), .sl d ys.length (ys.map (.int .i64))]) (fun _ => True) (fun | (_, xs, _, ys) => .bool (decide (xs = ys)))
set_option maxRecDepth 10000 in
theorem l1Same_sound : Sound Tryz.prog 65 sSame := by
  refine sound_of Tryz.func65 rfl (enters_of Tryz.func65 (by kernel_rfl) (by kernel_rfl)) ?_
  rintro ⟨c, xs, d, ys⟩ -
  conv => whnf
  repeat' (first
    | ((first | refine plan_in (id := 6) [0, 1, 2, 3, 4, 5, 6, 7, 8] (by kernel_rfl) (by kernel_rfl) ?_ | refine fun (_ : _ ≤ maxLen) => ?_ | refine append_same ?_); conv => whnf) | refine aIf_not ?_
    | (refine aIf_dec (fun _ => ?_) (fun _ => ?_) <;> conv => whnf))
  · have hl : ys.length = xs.length := by omega
    refine loop_in (ι := Nat) (fun k => ⟨[.sl c xs.length (xs.map (.int .i64)), .sl d ys.length (ys.map (.int .i64)), .un, .un, .bool false, .int .i64 k, .un, .un, .un, .un, .un, .un, .un, .un, .un, .un, .un, .un, .un, .un, .un, .un, .un, .un, .un, .un], [], 1, 0⟩)
      (fun k => k ≤ xs.length ∧ ∀ j, j < k → xs.getD j 0 = ys.getD j 0) (fun k => xs.length - k) 0 ⟨Nat.zero_le _, fun j hj => by omega⟩ ?_ ?_
    · repeat' (first
        | exact trivial | exact rfl
        | exact pureL_ints _ _ | refine And.intro ?_ ?_
        | exact Nat.le_of_ble_eq_true rfl)
    · rintro k ⟨hk, hall⟩
      conv => whnf
      repeat' (first
        | ((first | refine plan_in (id := 6) [0, 1, 2, 3, 4, 5, 6, 7, 8] (by kernel_rfl) (by kernel_rfl) ?_ | refine fun (_ : _ ≤ maxLen) => ?_ | refine get_nat (by omega) ?_ | refine And.intro (by omega) ?_ | refine append_same ?_); conv => whnf) | refine aIf_not ?_
        | (refine aIf_dec (fun _ => ?_) (fun _ => ?_) <;> conv => whnf))
      · refine next_in (k + 1) (by omega) ⟨by omega, fun j hj => ?_⟩ ?_
        · rcases Nat.lt_succ_iff_lt_or_eq.1 hj with h1 | rfl
          · exact hall j h1
          · assumption
        · have hmax : maxLen = 9223372036854775807 := rfl
          repeat' (first
            | exact trivial | exact rfl
            | exact pureL_ints _ _ | refine And.intro ?_ ?_
            | exact Nat.le_of_ble_eq_true rfl | exact int_eq (by rw [IntWalk.i64_in _ (by omega)] <;> omega))
      · refine retS rfl (congrArg AV.bool ?_)
        symm; rw [decide_eq_false_iff_not]; rintro rfl; contradiction
      · refine retS rfl (congrArg AV.bool ?_)
        symm; rw [decide_eq_true_iff]
        exact getD_ext (by omega) fun j hj => hall j (by omega)
  · refine retS rfl (congrArg AV.bool ?_)
    symm; rw [decide_eq_false_iff_not]; rintro rfl; omega
theorem l1Same_call {c d : Nat} {xs ys : List Int} {env : List AV} {rows : List Row} {ctr low : Nat} {k : AV → St → Prop} (h : k (.bool (decide (xs = ys))) ⟨env, rows, ctr + 1, low⟩) :
    CallB Tryz.prog 65 ⟨env, rows, ctr, low⟩ [.sl c xs.length (xs.map (.int .i64)), .sl d ys.length (ys.map (.int .i64))] k := callS_in l1Same_sound (c, xs, d, ys) trivial rfl h
set_option maxRecDepth 10000 in
theorem sameNums_sound : Sound Tryz.prog 72 sSame := by
  refine sound_of Tryz.func72 rfl (enters_of Tryz.func72 (by kernel_rfl) (by kernel_rfl)) ?_
  rintro ⟨c, xs, d, ys⟩ -
  conv => whnf
  repeat' (first
    | ((first | refine fun (_ : _ ≤ maxLen) => ?_ | refine append_same ?_); conv => whnf) | refine aIf_not ?_
    | (refine aIf_dec (fun _ => ?_) (fun _ => ?_) <;> conv => whnf))
  · have hl : ys.length = xs.length := by omega
    refine loop_in (ι := Nat) (fun k => ⟨[.sl c xs.length (xs.map (.int .i64)), .sl d ys.length (ys.map (.int .i64)), .un, .un, .bool false, .un, .un, .un, .un, .un, .un, .un, .sl c xs.length (xs.map (.int .i64)), .int .i64 xs.length, .int .i64 k, .un, .un, .un, .un, .un, .un, .un, .un, .un, .un, .un], [], 1, 0⟩)
      (fun k => k ≤ xs.length ∧ ∀ j, j < k → xs.getD j 0 = ys.getD j 0) (fun k => xs.length - k) 0 ⟨Nat.zero_le _, fun j hj => by omega⟩ ?_ ?_
    · repeat' (first
        | exact trivial | exact rfl
        | exact pureL_ints _ _ | refine And.intro ?_ ?_
        | exact Nat.le_of_ble_eq_true rfl)
    · rintro k ⟨hk, hall⟩
      conv => whnf
      repeat' (first
        | ((first | refine get_nat (by omega) ?_ | refine And.intro (by omega) ?_ | refine append_same ?_); conv => whnf) | refine aIf_not ?_
        | (refine aIf_dec (fun _ => ?_) (fun _ => ?_) <;> conv => whnf))
      · refine next_in (k + 1) (by omega) ⟨by omega, fun j hj => ?_⟩ ?_
        · rcases Nat.lt_succ_iff_lt_or_eq.1 hj with h1 | rfl
          · exact hall j h1
          · assumption
        · have hmax : maxLen = 9223372036854775807 := rfl
          repeat' (first
            | exact trivial | exact rfl
            | exact pureL_ints _ _ | refine And.intro ?_ ?_
            | exact Nat.le_of_ble_eq_true rfl | exact int_eq (by rw [IntWalk.i64_in _ (by omega)] <;> omega))
      · refine retS rfl (congrArg AV.bool ?_)
        symm; rw [decide_eq_false_iff_not]; rintro rfl; contradiction
      · refine retS rfl (congrArg AV.bool ?_)
        symm; rw [decide_eq_true_iff]
        exact getD_ext (by omega) fun j hj => hall j (by omega)
  · refine retS rfl (congrArg AV.bool ?_)
    symm; rw [decide_eq_false_iff_not]; rintro rfl; omega
theorem sameNums_call {c d : Nat} {xs ys : List Int} {env : List AV} {rows : List Row} {ctr low : Nat} {k : AV → St → Prop} (h : k (.bool (decide (xs = ys))) ⟨env, rows, ctr + 1, low⟩) :
    CallB Tryz.prog 72 ⟨env, rows, ctr, low⟩ [.sl c xs.length (xs.map (.int .i64)), .sl d ys.length (ys.map (.int .i64))] k := callS_in sameNums_sound (c, xs, d, ys) trivial rfl h
def px (xs ys : List Int) (i : Int) : List Int := (List.range xs.length).map fun j => if 1 < xs.getD j 0 then (places ys i).getD (ys.length - xs.length + j) 0 else 0
theorem px_length (xs ys : List Int) (i : Int) : (px xs ys i).length = xs.length := by simp [px]
theorem px_getD {xs ys : List Int} {i : Int} {j : Nat} (h : j < xs.length) : (px xs ys i).getD j 0 = if 1 < xs.getD j 0 then (places ys i).getD (ys.length - xs.length + j) 0 else 0 := by
  simp [px, List.getD, List.getElem?_map, List.getElem?_range h]
theorem l1Index_n {c d n : Nat} {xs ps : List Int} {env : List AV} {rows : List Row} {ctr low : Nat} {k : AV → St → Prop} (hn : n = ps.length) (hl : ps.length = xs.length) (h : k (.int .i64 (idxTo xs ps xs.length)) ⟨env, rows, ctr + 1, low⟩) :
    CallB Tryz.prog 153 ⟨env, rows, ctr, low⟩ [.sl c xs.length (xs.map (.int .i64)), .sl d n (ps.map (.int .i64))] k := by
  subst hn; exact l1Index_call hl h
set_option maxHeartbeats 4000000 in
set_option maxRecDepth 10000 in
theorem l1Spread_sound : Sound Tryz.prog 178 (fnS (ι := Nat × List Int × Nat × List Int × Int) (fun | (c, xs, d, ys, i) => [.sl c xs.length (xs.map (.int .i64)), .sl d ys.length (ys.map (.int .i64)), .int .i64 i]) (fun | (_, xs, _, ys, _) => shapeOk ys = true ∧ xs.length ≤ ys.length) (fun | (_, xs, _, ys, i) => .int .i64 (idxTo xs (px xs ys i) xs.length))) := by
  refine sound_of Tryz.func178 rfl (enters_of Tryz.func178 (by kernel_rfl) (by kernel_rfl)) ?_
  rintro ⟨c, xs, d, ys, i⟩ ⟨hy, hxy⟩
  have hxy : xs.length ≤ ys.length := hxy
  have hy : shapeOk ys = true := hy
  have hly := ((shapeOk_iff ys).1 hy).1
  have hpl := places_length ys i
  conv => whnf
  repeat' (first
    | ((first | refine fun (_ : _ ≤ maxLen) => ?_ | refine And.intro (And.intro (Int.le_refl _) (And.intro (by kernel_rfl) (And.intro rfl (by kernel_rfl)))) (And.intro (And.intro (by omega) (And.intro (bytes_le (b := 8) rfl (by omega)) (by omega))) ?_) | refine callG_t ?_ | refine append_same ?_ | refine And.intro (pureL_ints _ _) ?_ | refine l1Place_call (by assumption) ?_); conv => whnf))
  refine loop_in (ι := Nat × List Int) (fun | (k, ws) => ⟨[.sl c xs.length (xs.map (.int .i64)), .sl d ys.length (ys.map (.int .i64)), .int .i64 i, .un, .un, .un, .un, .ref 0 1 0 (places ys i).length, .ref 1 2 0 xs.length, .int .i64 k, .un, .un, .un, .un, .un, .un, .un, .un, .un, .un, .un, .un, .un, .un, .un, .un, .un, .un, .un, .un, .un, .un, .un, .un, .un, .un, .un, .un, .un, .un, .un, .un, .un], [⟨1, 3, 1, (places ys i).map (.int .i64)⟩, ⟨2, 3, 1, ws.map (.int .i64)⟩], 3, 0⟩)
    (fun x => x.1 ≤ xs.length ∧ x.2.length = xs.length ∧ (∀ j, j < x.1 → x.2.getD j 0 = (px xs ys i).getD j 0) ∧ ∀ j, x.1 ≤ j → j < xs.length → x.2.getD j 0 = 0) (fun x => xs.length - x.1) (0, List.replicate xs.length 0) ⟨Nat.zero_le _, by simp, fun j hj => absurd hj (Nat.not_lt_zero _), fun j _ hj => by simp [List.getD, hj]⟩ ?_ ?_
  · repeat' (first
      | exact trivial | exact rfl
      | exact pureL_ints _ _ | exact le_ints rfl
      | exact le_ints (rep_ints _ _) | refine And.intro ?_ ?_
      | exact Nat.le_of_ble_eq_true rfl)
  · rintro ⟨k, ws⟩ ⟨hk, hl, hall, hz⟩
    have hk : k ≤ xs.length := hk
    have hl : ws.length = xs.length := hl
    have hall : ∀ j, j < k → ws.getD j 0 = (px xs ys i).getD j 0 := hall
    have hz : ∀ j, k ≤ j → j < xs.length → ws.getD j 0 = 0 := hz
    have hw1 : IntKind.i64.wrap ((ys.length : Int) - (xs.length : Int)) = (ys.length : Int) - (xs.length : Int) := IntWalk.i64_in _ (by omega)
    have hw2 : IntKind.i64.wrap (IntKind.i64.wrap ((ys.length : Int) - (xs.length : Int)) + (k : Int)) = (ys.length : Int) - (xs.length : Int) + (k : Int) := by rw [hw1]; exact IntWalk.i64_in _ (by omega)
    have hi : (IntKind.i64.wrap (IntKind.i64.wrap ((ys.length : Int) - (xs.length : Int)) + (k : Int))).toNat = ys.length - xs.length + k := by rw [hw2]; omega
    by_cases hkx : k < xs.length
    · have hp := px_getD (ys := ys) (i := i) hkx
      conv => whnf
      repeat' (first
        | ((first | refine fun (_ : _ ≤ maxLen) => ?_ | refine get_int0 (by omega) ?_ | refine get_nat (by omega) ?_ | refine And.intro (by omega) ?_ | refine callG_t ?_ | refine append_same ?_ | refine cut_all (by simp only [List.length_map]; omega) (scalL_ints _ _) ?_ | refine l1Index_n (by omega) (by omega) ?_ | refine And.intro rfl (And.intro rfl (And.intro (by first | omega | (rw [List.length_map]; omega)) ?_)) | refine set_nat ?_ (by omega)); conv => whnf) | (refine aIf_dec (fun _ => ?_) (fun _ => ?_) <;> conv => whnf))
      all_goals (first | (exfalso; omega) | skip)
      · have hp : (px xs ys i).getD k 0 = (places ys i).getD (ys.length - xs.length + k) 0 := by rw [hp, if_pos (by omega)]
        rw [hi]
        simp only [Nat.mul_one]
        refine next_in (k + 1, ws.set k ((places ys i).getD (ys.length - xs.length + k) 0)) (show xs.length - (k + 1) < xs.length - k by omega) ⟨(show k + 1 ≤ xs.length by omega), by simpa using hl, fun j hj => ?_, fun j hj hj' => ?_⟩ ?_
        · have hj : j < k + 1 := hj
          show (ws.set k _).getD j 0 = _
          rw [getD_set (by omega)]
          split
          · rename_i e; subst e; exact hp.symm
          · exact hall j (by omega)
        · have hj : k + 1 ≤ j := hj
          show (ws.set k _).getD j 0 = _
          rw [getD_set (by omega), if_neg (by omega)]
          exact hz j (by omega) hj'
        · repeat' (first
            | exact trivial | exact rfl
            | exact pureL_ints _ _ | exact le_ints rfl
            | refine And.intro ?_ ?_ | exact Nat.le_of_ble_eq_true rfl
            | exact int_eq (by rw [IntWalk.i64_in _ (by omega)] <;> omega))
      · have hp : (px xs ys i).getD k 0 = 0 := by rw [hp, if_neg (by omega)]
        refine next_in (k + 1, ws) (show xs.length - (k + 1) < xs.length - k by omega) ⟨(show k + 1 ≤ xs.length by omega), hl, fun j hj => ?_, fun j hj hj' => hz j (by have hj : k + 1 ≤ j := hj; omega) hj'⟩ ?_
        · have hj : j < k + 1 := hj
          rcases Nat.lt_succ_iff_lt_or_eq.1 hj with h1 | rfl
          · exact hall j h1
          · rw [hp]; exact hz _ (Nat.le_refl _) hkx
        · repeat' (first
            | exact trivial | exact rfl
            | exact pureL_ints _ _ | exact le_ints rfl
            | refine And.intro ?_ ?_ | exact Nat.le_of_ble_eq_true rfl
            | exact int_eq (by rw [IntWalk.i64_in _ (by omega)] <;> omega))
    · have e : k = xs.length := by omega
      have e1 : ws = px xs ys i := getD_ext (by rw [px_length, hl]) fun j hj => by
        rw [px_length] at hj; exact hall j (by omega)
      subst e1
      have hpx := px_length xs ys i
      conv => whnf
      repeat' (first
        | ((first | refine fun (_ : _ ≤ maxLen) => ?_ | refine get_nat0 (by omega) ?_ | refine get_nat (by omega) ?_ | refine And.intro (by omega) ?_ | refine callG_t ?_ | refine append_same ?_ | refine And.intro (pureL_ints _ _) ?_ | refine cut_all (by simp only [List.length_map]; omega) (scalL_ints _ _) ?_ | refine l1Index_n (by omega) (by omega) ?_ | refine set_nat ?_ (by omega)); conv => whnf) | (refine aIf_dec (fun _ => ?_) (fun _ => ?_) <;> conv => whnf))
      all_goals (first | (exfalso; omega) | exact retS rfl rfl)
theorem l1Spread_call {c d : Nat} {xs ys : List Int} {i : Int} {env : List AV} {rows : List Row} {ctr low : Nat} {k : AV → St → Prop} (hpre : shapeOk ys = true ∧ xs.length ≤ ys.length) (h : k (.int .i64 (idxTo xs (px xs ys i) xs.length)) ⟨env, rows, ctr + 1, low⟩) :
    CallB Tryz.prog 178 ⟨env, rows, ctr, low⟩ [.sl c xs.length (xs.map (.int .i64)), .sl d ys.length (ys.map (.int .i64)), .int .i64 i] k := callS_in l1Spread_sound (c, xs, d, ys, i) hpre rfl h
abbrev spOk (xs ys : List Int) (i : Int) : Prop := jOk xs ys = true ∧ jL xs ys = ys ∧ (0 ≤ i ∧ i < cntTo ys ys.length)
theorem sp_facts {xs ys : List Int} (h : jOk xs ys = true) (h' : jL xs ys = ys) : shapeOk ys = true ∧ xs.length ≤ ys.length := by
  have h1 := (jOk_iff xs ys).1 h
  refine ⟨h1.2.1, ?_⟩
  have e : jL xs ys = joined xs ys := if_pos h
  have : (jL xs ys).length = ys.length := congrArg List.length h'
  rw [e, joined_length] at this
  unfold jN at this; omega
def spread (xs ys : List Int) (i : Int) : Int := if spOk xs ys i then idxTo xs (px xs ys i) xs.length else -1
end Go.Proofs.YtjmdhfjemaoebaaGreat
namespace Go.Proofs.YtjmdhfjemaoebaaGreat
set_option maxRecDepth 20000
open Go.RowKit Go.Am
theorem pow4 {n : Nat} (h : n ≤ 3) : (4 : Int) ^ n ≤ 64 := by
  rcases n with _ | _ | _ | _ | n
  · decide
  · decide
  · decide
  · decide
  · omega
theorem size_in {xs : List Int} (h : shapeOk xs = true) {j : Nat} (hj : j < xs.length) : 1 ≤ xs.getD j 0 ∧ xs.getD j 0 ≤ 4 := (okSize_iff _).1 (((shapeOk_iff xs).1 h).2 j hj)
theorem cnt64 {xs : List Int} (h : shapeOk xs = true) {k : Nat} (hk : k ≤ xs.length) : 1 ≤ cntTo xs k ∧ cntTo xs k ≤ 64 := by
  have h3 := ((shapeOk_iff xs).1 h).1
  have h1 := cnt_bound h k hk
  have h2 := pow4 (n := k) (by omega)
  omega
theorem mul_le4 {a x : Int} (ha : 0 ≤ a ∧ a ≤ 64) (hx : 0 ≤ x ∧ x ≤ 4) : 0 ≤ a * x ∧ a * x ≤ 256 := by
  have h1 := Int.mul_le_mul ha.2 hx.2 hx.1 (by omega)
  exact ⟨Int.mul_nonneg ha.1 hx.1, by omega⟩
theorem cnt_next {xs : List Int} (h : shapeOk xs = true) {k : Nat} (hk : k < xs.length) : cntTo xs (k + 1) = cntTo xs k * xs.getD k 0 := by
  have h1 := cnt64 h (k := k) (by omega)
  have h2 := size_in h hk
  have h3 := mul_le4 (a := cntTo xs k) (x := xs.getD k 0) (by omega) (by omega)
  show IntKind.i64.wrap _ = _
  exact IntWalk.i64_in _ (by omega)
theorem idx_step {a b x p : Int} (h1 : 0 ≤ a) (h2 : a < b) (hx : 1 ≤ x) (hp : 0 ≤ p) (hp' : p < x) : 0 ≤ a * x + p ∧ a * x + p < b * x := by
  have h3 : (a + 1) * x ≤ b * x := Int.mul_le_mul_of_nonneg_right (by omega) (by omega)
  have h4 := Int.mul_nonneg h1 (show 0 ≤ x by omega)
  rw [Int.add_mul, Int.one_mul] at h3
  omega
theorem idx_next {xs ps : List Int} (hs : shapeOk xs = true) {k : Nat} (hk : k < xs.length) (h1 : 0 ≤ idxTo xs ps k ∧ idxTo xs ps k < cntTo xs k) (hp : 0 ≤ ps.getD k 0 ∧ ps.getD k 0 < xs.getD k 0) : idxTo xs ps (k + 1) = idxTo xs ps k * xs.getD k 0 + ps.getD k 0 := by
  have h2 := cnt64 hs (k := k) (by omega)
  have h3 := size_in hs hk
  have h4 := mul_le4 (a := idxTo xs ps k) (x := xs.getD k 0) (by omega) (by omega)
  show IntKind.i64.wrap (IntKind.i64.wrap _ + _) = _
  rw [IntWalk.i64_in (idxTo xs ps k * xs.getD k 0) (by omega)]
  exact IntWalk.i64_in _ (by omega)
theorem idx_range {xs ps : List Int} (hs : shapeOk xs = true) (hp : ∀ j, j < xs.length → 0 ≤ ps.getD j 0 ∧ ps.getD j 0 < xs.getD j 0) : ∀ k, k ≤ xs.length → 0 ≤ idxTo xs ps k ∧ idxTo xs ps k < cntTo xs k
  | 0, _ => ⟨Int.le_refl 0, (by decide : (0 : Int) < 1)⟩
  | k + 1, hk => by
    have ih := idx_range hs hp k (by omega)
    have h1 := hp k (by omega)
    rw [idx_next hs (by omega) ih h1, cnt_next hs (by omega)]
    exact idx_step ih.1 ih.2 (size_in hs (by omega)).1 h1.1 h1.2
theorem quo_bound {zs : List Int} {i : Int} (hs : shapeOk zs = true) (hi : 0 ≤ i ∧ i < cntTo zs zs.length) : ∀ m, m ≤ zs.length → 0 ≤ quoT zs i m ∧ quoT zs i m < cntTo zs (zs.length - m)
  | 0, _ => hi
  | m + 1, hm => by
    have ih := quo_bound hs hi m (by omega)
    have hz := size_in hs (j := zs.length - 1 - m) (by omega)
    have hc := cnt64 hs (k := zs.length - m) (by omega)
    have e : zs.length - m = (zs.length - (m + 1)) + 1 := by omega
    have e2 : zs.length - 1 - m = zs.length - (m + 1) := by omega
    have hn : cntTo zs (zs.length - m) = cntTo zs (zs.length - (m + 1)) * zs.getD (zs.length - (m + 1)) 0 := by
      rw [e]; exact cnt_next hs (by omega)
    have hd : (quoT zs i m).tdiv (zs.getD (zs.length - 1 - m) 0) = quoT zs i m / zs.getD (zs.length - 1 - m) 0 := Int.tdiv_eq_ediv_of_nonneg ih.1
    have h1 : 0 ≤ quoT zs i m / zs.getD (zs.length - 1 - m) 0 := Int.ediv_nonneg ih.1 (by omega)
    have h2 : quoT zs i m / zs.getD (zs.length - 1 - m) 0 < cntTo zs (zs.length - (m + 1)) := Int.ediv_lt_of_lt_mul (by omega) (by rw [e2, ← hn]; exact ih.2)
    have h3 := cnt64 hs (k := zs.length - (m + 1)) (by omega)
    show 0 ≤ IntKind.i64.wrap _ ∧ IntKind.i64.wrap _ < _
    rw [hd, IntWalk.i64_in _ (by omega)]
    exact ⟨h1, h2⟩
theorem place_in {zs : List Int} {i : Int} (hs : shapeOk zs = true) (hi : 0 ≤ i ∧ i < cntTo zs zs.length) {j : Nat} (hj : j < zs.length) : 0 ≤ (places zs i).getD j 0 ∧ (places zs i).getD j 0 < zs.getD j 0 := by
  rw [places_getD hj]
  have h1 := quo_bound hs hi (zs.length - 1 - j) (by omega)
  have h2 := size_in hs hj
  exact ⟨Int.tmod_nonneg _ h1.1, Int.tmod_lt_of_pos _ (by omega)⟩
theorem bx_of {xs : List Int} {n k : Nat} (_ : k < n) (hn : xs.length ≤ n) : bx xs ((n : Int) - k) = if k < n - xs.length then 1 else xs.getD (k - (n - xs.length)) 0 := by
  unfold bx
  by_cases h : k < n - xs.length
  · rw [if_pos (by omega), if_pos h]
  · rw [if_neg (by omega), if_neg h]
    congr 1; omega
theorem bx_in {xs : List Int} (hs : shapeOk xs = true) {n k : Nat} (hk : k < n) (hn : xs.length ≤ n) : 1 ≤ bx xs ((n : Int) - k) ∧ bx xs ((n : Int) - k) ≤ 4 := by
  rw [bx_of hk hn]
  split
  · omega
  · exact size_in hs (by omega)
theorem jN_comm (xs ys : List Int) : jN xs ys = jN ys xs := by unfold jN; omega
theorem bad_comm (xs ys : List Int) (b : Int) : bad xs ys b ↔ bad ys xs b := by unfold bad; omega
theorem jn_comm (xs ys : List Int) (b : Int) : jn xs ys b = jn ys xs b := by unfold jn; split <;> split <;> omega
theorem jOk_comm (xs ys : List Int) : jOk xs ys = jOk ys xs := by
  have key : ∀ xs ys : List Int, jOk xs ys = true → jOk ys xs = true := fun xs ys h => by
    obtain ⟨h1, h2, h3⟩ := (jOk_iff xs ys).1 h
    refine (jOk_iff ys xs).2 ⟨h2, h1, fun j hj => ?_⟩
    rw [jN_comm] at hj ⊢
    rw [bad_comm]
    exact h3 j hj
  by_cases h : jOk xs ys = true
  · rw [h, key xs ys h]
  · by_cases h' : jOk ys xs = true
    · exact absurd (key ys xs h') h
    · rw [Bool.not_eq_true] at h h'
      rw [h, h']
theorem joined_comm (xs ys : List Int) : joined xs ys = joined ys xs := getD_ext (by rw [joined_length, joined_length, jN_comm]) fun j hj => by
  rw [joined_length] at hj
  rw [joined_getD hj, joined_getD (by rw [jN_comm]; exact hj), jn_comm, jN_comm]
theorem jL_comm (xs ys : List Int) : jL xs ys = jL ys xs := by
  unfold jL; rw [jOk_comm, joined_comm]
theorem jL_joined {xs ys : List Int} (h : jOk xs ys = true) : jL xs ys = joined xs ys := if_pos h
theorem jL_length {xs ys : List Int} (h : jOk xs ys = true) : (jL xs ys).length = jN xs ys := by rw [jL_joined h, joined_length]
theorem bx_jL {xs ys : List Int} (h : jOk xs ys = true) {k : Nat} (hk : k < jN xs ys) : bx (jL xs ys) ((jN xs ys : Int) - k) = jn xs ys ((jN xs ys : Int) - k) := by
  rw [bx_of hk (by rw [jL_length h]; exact Nat.le_refl _), jL_length h, Nat.sub_self, if_neg (Nat.not_lt_zero _), Nat.sub_zero, jL_joined h, joined_getD hk]
theorem jn_in {xs ys : List Int} (h : jOk xs ys = true) {k : Nat} (hk : k < jN xs ys) : 1 ≤ jn xs ys ((jN xs ys : Int) - k) ∧ jn xs ys ((jN xs ys : Int) - k) ≤ 4 := by
  obtain ⟨h1, h2, h3⟩ := (jOk_iff xs ys).1 h
  have a := bx_in h1 hk (show xs.length ≤ jN xs ys by unfold jN; omega)
  have b := bx_in h2 hk (show ys.length ≤ jN xs ys by unfold jN; omega)
  unfold jn; split <;> omega
theorem jL_ok {xs ys : List Int} (h : jOk xs ys = true) : shapeOk (jL xs ys) = true := by
  obtain ⟨h1, h2, h3⟩ := (jOk_iff xs ys).1 h
  have l1 := ((shapeOk_iff xs).1 h1).1
  have l2 := ((shapeOk_iff ys).1 h2).1
  refine shapeOk_t (by rw [jL_length h]; unfold jN; omega) fun j hj => (okSize_iff _).2 ?_
  rw [jL_length h] at hj
  rw [jL_joined h, joined_getD hj]
  exact jn_in h hj
theorem jN_jL {xs ys : List Int} (h : jOk xs ys = true) : jN xs (jL xs ys) = jN xs ys := by
  have := jL_length h
  unfold jN at this ⊢; omega
theorem jOk_jL {xs ys : List Int} (h : jOk xs ys = true) : jOk xs (jL xs ys) = true := by
  obtain ⟨h1, h2, h3⟩ := (jOk_iff xs ys).1 h
  refine (jOk_iff _ _).2 ⟨h1, jL_ok h, fun j hj => ?_⟩
  rw [jN_jL h] at hj ⊢
  have hb := h3 j hj
  have a := bx_in h1 hj (show xs.length ≤ jN xs ys by unfold jN; omega)
  have b := bx_in h2 hj (show ys.length ≤ jN xs ys by unfold jN; omega)
  unfold bad at hb ⊢
  rw [bx_jL h hj]
  unfold jn
  split <;> omega
theorem jL_jL {xs ys : List Int} (h : jOk xs ys = true) : jL xs (jL xs ys) = jL xs ys := getD_ext (by rw [jL_length (jOk_jL h), jN_jL h, jL_length h]) fun j hj => by
  rw [jL_length h] at hj
  have h1 := ((jOk_iff xs ys).1 h).1
  rw [jL_joined (jOk_jL h), joined_getD (by rw [jN_jL h]; exact hj), jN_jL h]
  rw [jL_joined h, joined_getD hj, ← jL_joined h]
  show jn xs (jL xs ys) _ = _
  have e := bx_jL h hj
  unfold jn at e ⊢
  rw [e]
  by_cases h8 : bx xs ((jN xs ys : Int) - j) < bx ys ((jN xs ys : Int) - j)
  · simp only [h8, if_true]
  · simp only [h8, if_false, ite_self]
theorem sp_ok {xs ys : List Int} {i : Int} (h : spOk xs ys i) : shapeOk xs = true ∧ shapeOk ys = true ∧ xs.length ≤ ys.length ∧ jN xs ys = ys.length := by
  obtain ⟨h1, h2, h3⟩ := h
  obtain ⟨a1, a2⟩ := sp_facts h1 h2
  have a3 := ((jOk_iff xs ys).1 h1).1
  exact ⟨a3, a1, a2, by unfold jN; omega⟩
theorem sp_axis {xs ys : List Int} {i : Int} (h : spOk xs ys i) {j : Nat} (hj : j < xs.length) : 1 ≤ xs.getD j 0 ∧ (xs.getD j 0 = 1 ∨ xs.getD j 0 = ys.getD (ys.length - xs.length + j) 0) := by
  obtain ⟨a1, a2, a3, a4⟩ := sp_ok h
  have hs := size_in a1 hj
  refine ⟨hs.1, ?_⟩
  have hk : ys.length - xs.length + j < jN xs ys := by rw [a4]; omega
  have hb := ((jOk_iff xs ys).1 h.1).2.2 _ hk
  have e1 : bx xs ((jN xs ys : Int) - ((ys.length - xs.length + j : Nat) : Int)) = xs.getD j 0 := by
    rw [bx_of hk (by rw [a4]; exact a3), a4, if_neg (by omega)]; congr 1; omega
  have e2 : bx ys ((jN xs ys : Int) - ((ys.length - xs.length + j : Nat) : Int)) = ys.getD (ys.length - xs.length + j) 0 := by
    rw [bx_of hk (by rw [a4]; exact Nat.le_refl _), a4, if_neg (by omega)]; congr 1; omega
  have e3 : bx (jL xs ys) ((jN xs ys : Int) - ((ys.length - xs.length + j : Nat) : Int)) = ys.getD (ys.length - xs.length + j) 0 := by rw [h.2.1]; exact e2
  rw [bx_jL h.1 hk] at e3
  unfold bad at hb
  unfold jn at e3
  rw [e1, e2] at hb e3
  split at e3 <;> omega
theorem px_in {xs ys : List Int} {i : Int} (h : spOk xs ys i) {j : Nat} (hj : j < xs.length) : 0 ≤ (px xs ys i).getD j 0 ∧ (px xs ys i).getD j 0 < xs.getD j 0 ∧ (px xs ys i).getD j 0 ≤ (places ys i).getD (ys.length - xs.length + j) 0 := by
  obtain ⟨a1, a2, a3, a4⟩ := sp_ok h
  have hp := place_in a2 h.2.2 (j := ys.length - xs.length + j) (by omega)
  have hx := sp_axis h hj
  rw [px_getD hj]
  split <;> omega
theorem count_of {xs : List Int} (h : shapeOk xs = true) : countOf xs = cntTo xs xs.length := if_pos h
end Go.Proofs.YtjmdhfjemaoebaaGreat
namespace Go.Proofs.YtjmdhfjemaoebaaGreat
set_option maxRecDepth 20000
open Go.RowKit Go.Am
attribute [local irreducible] aPlan aGet aIf aLoop aCall RetB NextB CallB CallG aCut aSet aAppend
def turnTo (zs : List Int) (n : Int) : Nat → Option (List Bool)
  | 0 => some (List.replicate n.toNat false)
  | k + 1 =>
    match turnTo zs n k with
    | some bs => if 0 ≤ zs.getD k 0 ∧ zs.getD k 0 < n ∧ bs.getD (zs.getD k 0).toNat false = false then some (bs.set (zs.getD k 0).toNat true) else none
    | none => none
theorem turnTo_next {zs : List Int} {n : Int} {k : Nat} {bs : List Bool} (h : turnTo zs n k = some bs) (h' : 0 ≤ zs.getD k 0 ∧ zs.getD k 0 < n ∧ bs.getD (zs.getD k 0).toNat false = false) : turnTo zs n (k + 1) = some (bs.set (zs.getD k 0).toNat true) := by
  unfold turnTo; rw [h]; simp only; rw [if_pos h']
theorem turnTo_f {zs : List Int} {n : Int} {k : Nat} {bs : List Bool} (h : turnTo zs n k = some bs) (h' : ¬ (0 ≤ zs.getD k 0 ∧ zs.getD k 0 < n ∧ bs.getD (zs.getD k 0).toNat false = false)) : turnTo zs n (k + 1) = none := by
  unfold turnTo; rw [h]; simp only; rw [if_neg h']
theorem turnTo_none {zs : List Int} {n : Int} {k : Nat} (h : turnTo zs n k = none) : ∀ d, turnTo zs n (k + d) = none
  | 0 => h
  | d + 1 => by
    have := turnTo_none h d
    show turnTo zs n (k + d + 1) = none
    unfold turnTo; rw [this]
def turnOk (zs : List Int) (n : Int) : Bool := decide (n ≤ 3 ∧ (zs.length : Int) = n) && (turnTo zs n zs.length).isSome
theorem turnOk_f {zs : List Int} {n : Int} (h : ¬ (n ≤ 3 ∧ (zs.length : Int) = n)) : turnOk zs n = false := by unfold turnOk; simp [h]
theorem turnOk_fk {zs : List Int} {n : Int} {k : Nat} {bs : List Bool} (hk : k < zs.length) (h : turnTo zs n k = some bs) (h' : ¬ (0 ≤ zs.getD k 0 ∧ zs.getD k 0 < n ∧ bs.getD (zs.getD k 0).toNat false = false)) : turnOk zs n = false := by
  have := turnTo_none (turnTo_f h h') (zs.length - (k + 1))
  rw [show k + 1 + (zs.length - (k + 1)) = zs.length by omega] at this
  unfold turnOk; simp [this]
theorem turnOk_t {zs : List Int} {n : Int} {bs : List Bool} (h : n ≤ 3 ∧ (zs.length : Int) = n) (h' : turnTo zs n zs.length = some bs) : turnOk zs n = true := by unfold turnOk; simp [h, h']
def sTurnOk : CSpec := fnS (ι := Nat × List Int × Int) (fun | (c, zs, n) => [.sl c zs.length (zs.map (.int .i64)), .int .i64 n]) (fun _ => True) (fun | (_, zs, n) => .bool (turnOk zs n))
def difOk (zs : List Int) (n : Int) : Bool := (turnTo zs n zs.length).isSome
theorem difOk_fk {zs : List Int} {n : Int} {k : Nat} {bs : List Bool} (hk : k < zs.length) (h : turnTo zs n k = some bs) (h' : ¬ (0 ≤ zs.getD k 0 ∧ zs.getD k 0 < n ∧ bs.getD (zs.getD k 0).toNat false = false)) : difOk zs n = false := by
  have := turnTo_none (turnTo_f h h') (zs.length - (k + 1))
  rw [show k + 1 + (zs.length - (k + 1)) = zs.length by omega] at this
  unfold difOk; rw [this]; rfl
theorem difOk_t {zs : List Int} {n : Int} {bs : List Bool} (h' : turnTo zs n zs.length = some bs) : difOk zs n = true := by unfold difOk; rw [h']; rfl
theorem differentOk_sound : Sound Tryz.prog 195 (fnS (ι := Nat × List Int × Int) (fun | (c, zs, n) => [.sl c zs.length (zs.map (.int .i64)), .int .i64 n]) (fun | (_, _, n) => 0 ≤ n ∧ n ≤ 1048576) (fun | (_, zs, n) => .bool (difOk zs n))) := by
  refine sound_of Tryz.func195 rfl (enters_of Tryz.func195 (by kernel_rfl) (by kernel_rfl)) ?_
  rintro ⟨c, zs, n⟩ hpre
  have hpre : 0 ≤ n ∧ n ≤ 1048576 := hpre
  have hmax : maxLen = 9223372036854775807 := rfl
  conv => whnf
  repeat' (first
    | ((first | refine fun (_ : _ ≤ maxLen) => ?_ | refine append_same ?_ | refine And.intro (And.intro (Int.le_refl _) (And.intro (by kernel_rfl) (And.intro rfl (by kernel_rfl)))) (And.intro (And.intro (by omega) (And.intro (bytes_le (b := 1) rfl (by omega)) (by omega))) ?_)); conv => whnf))
  refine loop_u (ι := Nat × List Bool) [false, true, false, false, false, true, false, false, false, false, true, true, true, false, false, false, false, false, false, false, false, false, false, false, false, false, false, false, false, false] (fun | (k, _) => [(12, .int .i64 k)]) (fun | (_, bs) => [(0, bs.map .bool)]) (fun | (k, bs) => k ≤ zs.length ∧ bs.length = n.toNat ∧ turnTo zs n k = some bs) (fun x => zs.length - x.1) ((0, List.replicate n.toNat false)) ⟨Nat.zero_le _, by simp, rfl⟩ ?_ ?_
  · conv => whnf
    repeat' (first
      | exact trivial | exact rfl
      | exact pureL_ints _ _ | exact le_bools (rep_bools _)
      | refine And.intro ?_ ?_ | exact Nat.le_of_ble_eq_true rfl)
  · rintro ⟨k, bs⟩ ⟨hk, hl, ht⟩
    have hk : k ≤ zs.length := hk
    have hl : bs.length = n.toNat := hl
    have ht : turnTo zs n k = some bs := ht
    conv => whnf
    repeat' (first
      | ((first | refine aIf_t ?_ | refine aIf_f ?_ | refine get_nat (by omega) ?_ | refine And.intro (by omega) ?_ | refine callG_t ?_ | refine indexOk_call trivial ?_ | refine append_same ?_ | refine And.intro rfl (And.intro rfl (And.intro (by first | omega | (rw [List.length_map]; omega)) ?_)) | refine set_bool ?_ (by omega) | refine get_bool0 (by omega) ?_); conv => whnf) | refine aIf_eqf ?_
      | refine aIf_not ?_ | (refine aIf_dec (fun _ => ?_) (fun _ => ?_) <;> conv => whnf)
      | (refine aIf_in (fun _ => ?_) (fun _ => ?_) <;> conv => whnf))
    all_goals (first
      | (exfalso; omega)
      | exact retS rfl (congrArg AV.bool (difOk_fk (k := k) (by omega) ht (by omega)).symm)
      | (rename_i hb; exact retS rfl (congrArg AV.bool (difOk_fk (k := k) (by omega) ht (by rw [hb]; simp)).symm))
      | (have e : k = zs.length := by omega
         subst e
         exact retS rfl (congrArg AV.bool (difOk_t ht).symm))
      | skip)
    rename_i hi hb
    refine next_u (k + 1, bs.set (zs.getD k 0).toNat true) (show zs.length - (k + 1) < zs.length - k by omega) ⟨(show k + 1 ≤ zs.length by omega), by simpa using hl, turnTo_next ht ⟨hi.1, hi.2, hb⟩⟩ ?_
    conv => whnf
    repeat' (first
      | exact trivial | exact rfl
      | exact pureL_ints _ _ | exact le_bools rfl
      | refine And.intro ?_ ?_ | exact Nat.le_of_ble_eq_true rfl
      | exact int_eq (by rw [IntWalk.i64_in _ (by omega)] <;> omega))
theorem differentOk_call {c : Nat} {zs : List Int} {n : Int} {env : List AV} {rows : List Row} {ctr low : Nat} {k : AV → St → Prop} (hpre : 0 ≤ n ∧ n ≤ 1048576) (h : k (.bool (difOk zs n)) ⟨env, rows, ctr + 1, low⟩) :
    CallB Tryz.prog 195 ⟨env, rows, ctr, low⟩ [.sl c zs.length (zs.map (.int .i64)), .int .i64 n] k := callS_in differentOk_sound (c, zs, n) hpre rfl h
set_option maxRecDepth 10000 in
theorem iTurnOk_sound : Sound Tryz.prog 192 sTurnOk := by
  refine sound_of Tryz.func192 rfl (enters_of Tryz.func192 (by kernel_rfl) (by kernel_rfl)) ?_
  rintro ⟨c, zs, n⟩ -
  by_cases hn : n ≤ 3 ∧ (zs.length : Int) = n
  · have h : turnOk zs n = difOk zs n := by unfold turnOk difOk; rw [decide_eq_true hn, Bool.true_and]
    conv => whnf
    repeat' (first
      | ((first | refine aIf_t ?_ | refine aIf_f ?_ | refine fun (_ : _ ≤ maxLen) => ?_ | refine callG_t ?_); conv => whnf) | (refine differentOk_call (by first | omega | assumption | (refine ⟨?_, ?_⟩ <;> first | assumption | omega) | (refine ⟨?_, ?_, ?_⟩ <;> first | assumption | omega)) ?_; conv => whnf) | ((first | refine append_same ?_ | refine And.intro (pureL_ints _ _) ?_); conv => whnf) | refine aIf_eqt ?_
      | (refine aIf_dec (fun _ => ?_) (fun _ => ?_) <;> conv => whnf))
    all_goals (first | (exfalso; omega) | exact retS rfl (congrArg AV.bool h.symm))
  · conv => whnf
    repeat' (first
      | ((first | refine aIf_t ?_ | refine aIf_f ?_ | refine fun (_ : _ ≤ maxLen) => ?_ | refine And.intro (by omega) ?_ | refine callG_t ?_); conv => whnf) | (refine differentOk_call (by first | omega | assumption | (refine ⟨?_, ?_⟩ <;> first | assumption | omega) | (refine ⟨?_, ?_, ?_⟩ <;> first | assumption | omega)) ?_; conv => whnf) | (refine append_same ?_; conv => whnf) | refine aIf_eqt ?_
      | (refine aIf_dec (fun _ => ?_) (fun _ => ?_) <;> conv => whnf))
    all_goals (first | (exfalso; omega) | exact retS rfl (congrArg AV.bool (turnOk_f hn).symm))
theorem iTurnOk_call {c : Nat} {zs : List Int} {n : Int} {env : List AV} {rows : List Row} {ctr low : Nat} {k : AV → St → Prop} (h : k (.bool (turnOk zs n)) ⟨env, rows, ctr + 1, low⟩) :
    CallB Tryz.prog 192 ⟨env, rows, ctr, low⟩ [.sl c zs.length (zs.map (.int .i64)), .int .i64 n] k := callS_in iTurnOk_sound (c, zs, n) trivial rfl h
set_option maxRecDepth 10000 in
theorem sTurnOk_sound : Sound Tryz.prog 155 sTurnOk := by
  refine sound_of Tryz.func155 rfl (enters_of Tryz.func155 (by kernel_rfl) (by kernel_rfl)) ?_
  rintro ⟨c, zs, n⟩ -
  conv => whnf
  repeat' (first
    | ((first | refine aIf_t ?_ | refine aIf_f ?_ | refine fun (_ : _ ≤ maxLen) => ?_ | refine append_same ?_ | refine And.intro (And.intro (Int.le_refl _) (And.intro (by kernel_rfl) (And.intro rfl (by kernel_rfl)))) (And.intro (And.intro (by omega) (And.intro (bytes_le (b := 1) rfl (by omega)) (by omega))) ?_)); conv => whnf) | refine aIf_eqf ?_
    | refine aIf_not ?_ | (refine aIf_dec (fun _ => ?_) (fun _ => ?_) <;> conv => whnf))
  · exact retS rfl (congrArg AV.bool (turnOk_f (by omega)).symm)
  · have hn' : n ≤ 3 ∧ (zs.length : Int) = n := by omega
    have hw : IntKind.i64.wrap (n - 1) = n - 1 := IntWalk.i64_in _ (by omega)
    refine loop_in (ι := Nat × List Bool) (fun | (k, bs) => ⟨[.sl c zs.length (zs.map (.int .i64)), .int .i64 n, .un, .un, .bool false, .ref 0 1 0 n.toNat, .int .i64 k, .un, .un, .un, .un, .un, .un, .un, .un, .un, .un, .un, .un, .un, .un, .un, .un, .un, .un, .un, .un, .un, .un, .un, .un, .un, .un, .un, .un, .un, .un, .un, .un, .un, .un, .un, .un, .un, .un], [⟨1, 4, 1, bs.map .bool⟩], 2, 0⟩)
      (fun x => x.1 ≤ zs.length ∧ x.2.length = n.toNat ∧ turnTo zs n x.1 = some x.2) (fun x => zs.length - x.1) (0, List.replicate n.toNat false) ⟨Nat.zero_le _, by simp, rfl⟩ ?_ ?_
    · repeat' (first
        | exact trivial | exact rfl
        | exact pureL_ints _ _ | exact le_bools (rep_bools _)
        | refine And.intro ?_ ?_ | exact Nat.le_of_ble_eq_true rfl)
    · rintro ⟨k, bs⟩ ⟨hk, hl, ht⟩
      have hk : k ≤ zs.length := hk
      have hl : bs.length = n.toNat := hl
      have ht : turnTo zs n k = some bs := ht
      conv => whnf
      repeat' (first
        | ((first | refine aIf_t ?_ | refine aIf_f ?_ | refine get_nat (by omega) ?_ | refine And.intro (by omega) ?_ | refine callG_t ?_ | refine append_same ?_ | refine in_call ?_ | refine And.intro rfl (And.intro rfl (And.intro (by first | omega | (rw [List.length_map]; omega)) ?_)) | refine set_bool ?_ (by omega) | refine get_bool0 (by omega) ?_); conv => whnf) | refine aIf_eqf ?_
        | refine aIf_not ?_ | (refine aIf_dec (fun _ => ?_) (fun _ => ?_) <;> conv => whnf)
        | (refine aIf_in (fun _ => ?_) (fun _ => ?_) <;> conv => whnf))
      · rename_i hb
        exact retS rfl (congrArg AV.bool (turnOk_fk (k := k) (by omega) ht (by rw [hb]; simp)).symm)
      · rename_i hb
        refine next_in (k + 1, bs.set (zs.getD k 0).toNat true) (show zs.length - (k + 1) < zs.length - k by omega) ⟨(show k + 1 ≤ zs.length by omega), by simpa using hl, turnTo_next ht ⟨by omega, by omega, hb⟩⟩ ?_
        have hmax : maxLen = 9223372036854775807 := rfl
        repeat' (first
          | exact trivial | exact rfl
          | exact pureL_ints _ _ | exact le_bools rfl
          | refine And.intro ?_ ?_ | exact Nat.le_of_ble_eq_true rfl
          | exact int_eq (by rw [IntWalk.i64_in _ (by omega)] <;> omega))
      · exact retS rfl (congrArg AV.bool (turnOk_fk (k := k) (by omega) ht (by omega)).symm)
      · have e : k = zs.length := by omega
        subst e
        exact retS rfl (congrArg AV.bool (turnOk_t hn' ht).symm)
  · exact retS rfl (congrArg AV.bool (turnOk_f (by omega)).symm)
theorem sTurnOk_call {c : Nat} {zs : List Int} {n : Int} {env : List AV} {rows : List Row} {ctr low : Nat} {k : AV → St → Prop} (h : k (.bool (turnOk zs n)) ⟨env, rows, ctr + 1, low⟩) :
    CallB Tryz.prog 155 ⟨env, rows, ctr, low⟩ [.sl c zs.length (zs.map (.int .i64)), .int .i64 n] k := callS_in sTurnOk_sound (c, zs, n) trivial rfl h
end Go.Proofs.YtjmdhfjemaoebaaGreat
