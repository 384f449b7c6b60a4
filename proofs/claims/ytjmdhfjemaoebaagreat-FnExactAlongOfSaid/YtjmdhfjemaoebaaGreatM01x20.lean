import Derived.Test.YtjmdhfjemaoebaaGreatM01x19
import Derived.Test.YtjmdhfjemaoebaaGreatM01x15
import Derived.Test.YtjmdhfjemaoebaaGreatM01x17
import Derived.Test.YtjmdhfjemaoebaaGreatM01x16
namespace Go.Proofs.YtjmdhfjemaoebaaGreat
set_option maxRecDepth 20000
open Go.RowKit Go.Am
attribute [local irreducible] aPlan aGet aIf aLoop aCall RetB NextB CallB CallG aCut aSet aAppend
def sSumAlong : CSpec := fnTB (ι := Nat × List Int × Nat × List Int × Int) 3 (fun | (c, xs, d, zs, i) => [.agg [.sl c xs.length (xs.map (.int .i64)), .sl d zs.length (zs.map (.int .i64))], .int .i64 i]) (fun | (_, xs, _, _, _) => xs.length ≤ 1048576) (fun | (_, xs, _, zs, i) => sumM xs zs i)
set_option maxHeartbeats 4000000 in
set_option maxRecDepth 10000 in
theorem iSumAlong_sound : Sound Tryz.prog 165 sSumAlong := by
  refine sound_of Tryz.func165 rfl (enters_of Tryz.func165 (by kernel_rfl) (by kernel_rfl)) ?_
  rintro ⟨c, xs, d, zs, i⟩ hpre
  have hmax : maxLen = 9223372036854775807 := rfl
  rcases tensor_or xs zs with ⟨ht, hx, hz⟩ | ht
  · by_cases hi : 0 ≤ i ∧ i < xs.length
    · obtain ⟨a, rfl⟩ : ∃ a : Nat, i = a := ⟨i.toNat, by omega⟩
      obtain ⟨hs, t2, t3⟩ := (tensorOk_iff _ _).1 ht
      have ha : a < xs.length := by omega
      have hf := sum_facts hs ha
      have hso : stridesOf xs = strides xs := if_pos hs
      have hsl : (stridesOf xs).length = xs.length := by rw [hso, strides_length]
      have hsz := size_in hs ha
      have hst := strides_in hs ha
      have hst' : 1 ≤ (stridesOf xs).getD a 0 ∧ (stridesOf xs).getD a 0 ≤ 64 := by rw [hso]; exact hst
      have hq : ((zs.length : Int)).tdiv (xs.getD a 0) = cntTo (wo xs a) (wo xs a).length := by rw [t2]; exact hf.cnt
      have hc := cnt64 hf.sh (Nat.le_refl _)
      have hw7 : IntKind.i64.wrap ((stridesOf xs).getD a 0 * xs.getD a 0) = blkA xs a := by
        rw [hso]
        have e : (strides xs).getD a 0 * xs.getD a 0 = blkA xs a := rfl
        rw [e]; exact IntWalk.i64_in _ (by have := hf.blk; omega)
      have hb := hf.blk
      have hwq : IntKind.i64.wrap ((zs.length : Int).tdiv (xs.getD a 0)) = cntTo (wo xs a) (wo xs a).length := by
        rw [hq]; exact IntWalk.i64_in _ (by omega)
      conv => whnf
      repeat' (first
        | ((first | refine plan_in (id := 5) [0, 1, 2, 3, 4, 5, 6, 7, 8, 9, 10] (by kernel_rfl) (by kernel_rfl) ?_ | refine plan_in (id := 9) [0, 1, 2, 3, 4, 5, 6, 7, 8, 9, 10, 11, 12, 13, 14, 15] (by kernel_rfl) (by kernel_rfl) ?_ | refine plan_in (id := 11) [0, 1, 2, 3, 5, 6, 7, 8, 9, 4, 10, 11] (by kernel_rfl) (by kernel_rfl) ?_ | refine aIf_t ?_ | refine aIf_f ?_ | refine fun (_ : _ ≤ maxLen) => ?_ | refine get_nat0 (by omega) ?_ | refine get_nat (by omega) ?_ | refine aGet_in rfl ?_ | refine And.intro (And.intro (Int.le_refl _) (And.intro (by kernel_rfl) (And.intro rfl (by kernel_rfl)))) (And.intro (And.intro (by omega) (And.intro (bytes_le (b := 8) rfl (by omega)) (by omega))) ?_) | refine And.intro (by omega) ?_ | refine load_same ?_ | refine And.intro rfl (And.intro (List.cons_ne_nil _ _) ?_) | refine And.intro (Nat.le_of_ble_eq_true rfl) ?_ | refine callG_t ?_ | refine axisOk_call ?_ | refine iTensorOk_call ?_ | refine append_same ?_ | refine takeN_in ?_ | refine And.intro (pureL_ints _ _) ?_ | refine iStridesOf_call (by omega) ?_ | refine set_force ?_ | refine And.intro (by kernel_rfl) ?_ | refine aIf_tt (by assumption) ?_); conv => whnf) | refine aIf_eqf ?_
        | refine aIf_not ?_ | (refine aIf_dec (fun _ => ?_) (fun _ => ?_) <;> conv => whnf))
      all_goals (first | (exfalso; omega) | skip)
      refine loop_in (ι := Nat × List Int) (fun | (k, ws) => ⟨[.un, .int .i64 a, .ptr 0 1 0, .un, .ptr 3 4 0, .bool false, .int .i64 ((stridesOf xs).getD a 0), .int .i64 (IntKind.i64.wrap ((stridesOf xs).getD a 0 * xs.getD a 0)), .ref 5 8 0 (IntKind.i64.wrap ((zs.length : Int).tdiv (xs.getD a 0))).toNat, .un, .un, .un, .un, .un, .un, .un, .un, .un, .un, .un, .un, .un, .un, .un, .un, .un, .un, .un, .un, .un, .un, .un, .un, .un, .un, .un, .un, .un, .un, .un, .un, .un, .un, .un, .un, .un, .sl d zs.length (zs.map (.int .i64)), .int .i64 zs.length, .int .i64 k, .un, .un, .un, .un, .un, .un, .un, .un, .un, .un, .un, .un, .un, .un, .un, .un, .un, .un, .un, .un, .un, .un, .un, .un, .un, .un, .un, .un, .un, .un, .un, .un, .un, .un, .un, .un], [bt 1 [.sl c xs.length (xs.map (.int .i64)), .sl d zs.length (zs.map (.int .i64))], nl 2, nl 3, bt 4 [.ref 1 2 0 0, .ref 2 3 0 0], li 7 (stridesOf xs), li 8 ws], 9, 0⟩)
        (fun x => x.1 ≤ zs.length ∧ x.2 = smTo xs zs a x.1) (fun x => zs.length - x.1) (0, List.replicate (IntKind.i64.wrap ((zs.length : Int).tdiv (xs.getD a 0))).toNat 0) ⟨Nat.zero_le _, by rw [hwq]; rfl⟩ ?_ ?_
      · repeat' (first
          | exact trivial | exact rfl
          | exact pureL_ints _ _ | exact Or.inl (And.intro rfl rfl)
          | exact le_ints rfl | exact le_ints (rep_ints _ _)
          | exact Or.inl (And.intro (pureL_pair _ _ _ _ _ _) rfl) | refine Or.inr ?_
          | refine And.intro ?_ ?_ | exact Nat.le_of_ble_eq_true rfl)
      · rintro ⟨k, ws⟩ ⟨hk, hws⟩
        have hk : k ≤ zs.length := hk
        have hws : ws = smTo xs zs a k := hws
        have hl : ws.length = (cntTo (wo xs a) (wo xs a).length).toNat := by rw [hws]; exact smTo_length _ _ _ _
        by_cases hlt : k < zs.length
        · obtain ⟨f1, f2, f3, f4⟩ := hf.at_ k (by omega)
          have hE : IntKind.i64.wrap (IntKind.i64.wrap (IntKind.i64.wrap ((k : Int).tdiv (IntKind.i64.wrap ((stridesOf xs).getD a 0 * xs.getD a 0))) * (stridesOf xs).getD a 0) + (k : Int).tmod ((stridesOf xs).getD a 0)) = sumI xs a k := by
            have hb := hf.blk
            have hqr := quo_range (x := (k : Int)) (n := blkA xs a) (by omega) (by omega)
            have hrr := rem_range (x := (k : Int)) (n := (strides xs).getD a 0) (by omega) (by omega)
            rw [hw7, hso, IntWalk.i64_in ((k : Int).tdiv (blkA xs a)) (by omega)]
            have e : (k : Int).tdiv (blkA xs a) * (strides xs).getD a 0 = (k : Int).tdiv (blkA xs a) * stpA xs a := rfl
            rw [e, IntWalk.i64_in ((k : Int).tdiv (blkA xs a) * stpA xs a) (by omega), IntWalk.i64_in _ (by omega)]
            rfl
          conv => whnf
          repeat' (first
            | ((first | refine plan_in (id := 5) [0, 1, 2, 3, 4, 5, 6, 7, 8, 9, 10] (by kernel_rfl) (by kernel_rfl) ?_ | refine plan_in (id := 9) [0, 1, 2, 3, 4, 5, 6, 7, 8, 9, 10, 11, 12, 13, 14, 15] (by kernel_rfl) (by kernel_rfl) ?_ | refine plan_in (id := 11) [0, 1, 2, 3, 5, 6, 7, 8, 9, 4, 10, 11] (by kernel_rfl) (by kernel_rfl) ?_ | refine get_int0 (by omega) ?_ | refine get_nat (by omega) ?_ | refine aGet_in rfl ?_ | refine And.intro (by omega) ?_ | refine append_same ?_ | refine And.intro rfl (And.intro rfl (And.intro (by first | omega | (rw [List.length_map]; omega)) ?_)) | refine set_int ?_ (by omega)); conv => whnf) | (refine aIf_dec (fun _ => ?_) (fun _ => ?_) <;> conv => whnf))
          all_goals (first | (exfalso; omega) | skip)
          rw [hE]
          refine next_in (k + 1, ws.set (sumI xs a k).toNat (IntKind.i64.wrap (ws.getD (sumI xs a k).toNat 0 + zs.getD k 0))) (show zs.length - (k + 1) < zs.length - k by omega) ⟨(show k + 1 ≤ zs.length by omega), by subst hws; rfl⟩ ?_
          repeat' (first
            | exact trivial | exact rfl
            | exact pureL_ints _ _ | exact Or.inl (And.intro rfl rfl)
            | exact le_ints rfl | exact Or.inl (And.intro (pureL_pair _ _ _ _ _ _) rfl)
            | refine Or.inr ?_ | refine And.intro ?_ ?_
            | exact Nat.le_of_ble_eq_true rfl | exact int_eq (by rw [IntWalk.i64_in _ (by omega)] <;> omega))
        · have hwa : IntKind.i64.wrap ((a : Int) + 1) = ((a + 1 : Nat) : Int) := (IntWalk.i64_in _ (by omega)).trans (by omega)
          have ew : (IntKind.i64.wrap ((a : Int) + 1)).toNat = a + 1 := by omega
          have hke : k = zs.length := by omega
          have hM : sumM xs zs a = told (wo xs a) ws := by rw [sumM_t ht ha, hws, hke]
          conv => whnf
          repeat' (first
            | ((first | refine plan_in (id := 5) [0, 1, 2, 3, 4, 5, 6, 7, 8, 9, 10] (by kernel_rfl) (by kernel_rfl) ?_ | refine plan_in (id := 9) [0, 1, 2, 3, 4, 5, 6, 7, 8, 9, 10, 11, 12, 13, 14, 15] (by kernel_rfl) (by kernel_rfl) ?_ | refine plan_in (id := 11) [0, 1, 2, 3, 5, 6, 7, 8, 9, 4, 10, 11] (by kernel_rfl) (by kernel_rfl) ?_ | refine get_nat0 (by omega) ?_ | refine get_nat (by omega) ?_ | refine aGet_in rfl ?_ | refine And.intro (by omega) ?_ | refine And.intro (by rw [List.length_map]; omega) ?_ | refine append_same ?_ | refine And.intro (pureL_take _ _ _) ?_ | refine set_nat ?_ (by omega)); conv => whnf) | (refine aIf_dec (fun _ => ?_) (fun _ => ?_) <;> conv => whnf))
          all_goals (first | (exfalso; omega) | skip)
          refine copyNums_cut (zs := xs.take a) (by simp [List.map_take]) (by simp; omega) (by simp; omega) ?_
          conv => whnf
          repeat' (first
            | ((first | refine plan_in (id := 5) [0, 1, 2, 3, 4, 5, 6, 7, 8, 9, 10] (by kernel_rfl) (by kernel_rfl) ?_ | refine plan_in (id := 9) [0, 1, 2, 3, 4, 5, 6, 7, 8, 9, 10, 11, 12, 13, 14, 15] (by kernel_rfl) (by kernel_rfl) ?_ | refine plan_in (id := 11) [0, 1, 2, 3, 5, 6, 7, 8, 9, 4, 10, 11] (by kernel_rfl) (by kernel_rfl) ?_ | refine append_same ?_); conv => whnf))
          refine append_sl (zs := xs.take a) (ws := xs.drop (a + 1)) rfl (by rw [ew, Nat.mul_one, Nat.mul_one, List.take_of_length_le (by simp), List.map_drop]) (by rw [ew]; simp) rfl (by simp; omega) (Nat.zero_le _) (fun e => ?_) (fun _ => ?_)
          · have e' : wo xs a = xs.take a := by unfold wo; rw [e, List.append_nil]
            rw [e'] at hM
            conv => whnf
            repeat' (first
              | ((first | refine plan_in (id := 5) [0, 1, 2, 3, 4, 5, 6, 7, 8, 9, 10] (by kernel_rfl) (by kernel_rfl) ?_ | refine plan_in (id := 9) [0, 1, 2, 3, 4, 5, 6, 7, 8, 9, 10, 11, 12, 13, 14, 15] (by kernel_rfl) (by kernel_rfl) ?_ | refine plan_in (id := 11) [0, 1, 2, 3, 5, 6, 7, 8, 9, 4, 10, 11] (by kernel_rfl) (by kernel_rfl) ?_ | refine aGet_in rfl ?_ | refine And.intro (Nat.le_of_ble_eq_true rfl) ?_); conv => whnf) | (refine orNone_call _ _ rfl rfl (by decide) (by first | rfl | omega) (by first | rfl | omega) (fun _ => ?_) (fun _ => ?_) <;> conv => whnf) | ((first | refine append_same ?_ | refine takeN_in ?_ | refine set_force ?_ | refine And.intro (by kernel_rfl) ?_); conv => whnf))
            · rename_i hT
              refine retTB (hM := hM.trans (told_t hT)) ?_ ?_ ?_ ?_ ?_
              all_goals (first | exact rfl | decide | (simp; done))
            · rename_i hT
              refine retTB (hM := hM.trans (told_f hT)) ?_ ?_ ?_ ?_ ?_
              all_goals (first | exact rfl | decide | (simp; done))
          · have e' : wo xs a = xs.take a ++ xs.drop (a + 1) := rfl
            rw [e'] at hM
            have hln : (xs.take a ++ xs.drop (a + 1)).length = (xs.take a).length + (xs.length - (IntKind.i64.wrap ((a : Int) + 1)).toNat) := by rw [ew]; simp
            conv => whnf
            repeat' (first
              | ((first | refine plan_in (id := 5) [0, 1, 2, 3, 4, 5, 6, 7, 8, 9, 10] (by kernel_rfl) (by kernel_rfl) ?_ | refine plan_in (id := 9) [0, 1, 2, 3, 4, 5, 6, 7, 8, 9, 10, 11, 12, 13, 14, 15] (by kernel_rfl) (by kernel_rfl) ?_ | refine plan_in (id := 11) [0, 1, 2, 3, 5, 6, 7, 8, 9, 4, 10, 11] (by kernel_rfl) (by kernel_rfl) ?_ | refine aGet_in rfl ?_ | refine And.intro (Nat.le_of_ble_eq_true rfl) ?_); conv => whnf) | (refine orNone_call _ _ rfl rfl (by decide) (by first | rfl | omega) (by first | rfl | omega) (fun _ => ?_) (fun _ => ?_) <;> conv => whnf) | ((first | refine append_same ?_ | refine takeN_in ?_ | refine set_force ?_ | refine And.intro (by kernel_rfl) ?_); conv => whnf))
            · rename_i hT
              refine retTB (hM := hM.trans (told_t hT)) ?_ ?_ ?_ ?_ ?_
              all_goals (first | exact rfl | decide | (simp; done))
            · rename_i hT
              refine retTB (hM := hM.trans (told_f hT)) ?_ ?_ ?_ ?_ ?_
              all_goals (first | exact rfl | decide | (simp; done))
    · conv => whnf
      repeat' (first
        | ((first | refine plan_in (id := 5) [0, 1, 2, 3, 4, 5, 6, 7, 8, 9, 10] (by kernel_rfl) (by kernel_rfl) ?_ | refine plan_in (id := 9) [0, 1, 2, 3, 4, 5, 6, 7, 8, 9, 10, 11, 12, 13, 14, 15] (by kernel_rfl) (by kernel_rfl) ?_ | refine plan_in (id := 11) [0, 1, 2, 3, 5, 6, 7, 8, 9, 4, 10, 11] (by kernel_rfl) (by kernel_rfl) ?_ | refine aIf_t ?_ | refine aIf_f ?_ | refine fun (_ : _ ≤ maxLen) => ?_ | refine get_nat0 (by omega) ?_ | refine get_nat (by omega) ?_ | refine aGet_in rfl ?_ | refine And.intro (And.intro (Int.le_refl _) (And.intro (by kernel_rfl) (And.intro rfl (by kernel_rfl)))) (And.intro (And.intro (by omega) (And.intro (bytes_le (b := 8) rfl (by omega)) (by omega))) ?_) | refine And.intro (by omega) ?_ | refine load_same ?_ | refine And.intro rfl (And.intro (List.cons_ne_nil _ _) ?_) | refine And.intro (Nat.le_of_ble_eq_true rfl) ?_ | refine callG_t ?_ | refine axisOk_call ?_ | refine iTensorOk_call ?_ | refine append_same ?_ | refine takeN_in ?_ | refine And.intro (pureL_ints _ _) ?_ | refine iStridesOf_call (by omega) ?_ | refine set_force ?_ | refine And.intro (by kernel_rfl) ?_ | refine aIf_tt (by assumption) ?_); conv => whnf) | refine aIf_eqf ?_
        | refine aIf_not ?_ | (refine aIf_dec (fun _ => ?_) (fun _ => ?_) <;> conv => whnf))
      all_goals (first | (exfalso; omega) | skip)
      refine retTB (hM := sumM_f2 hi) ?_ ?_ ?_ ?_ ?_
      all_goals (first | exact rfl | decide | (simp; done))
  · conv => whnf
    repeat' (first
      | ((first | refine plan_in (id := 5) [0, 1, 2, 3, 4, 5, 6, 7, 8, 9, 10] (by kernel_rfl) (by kernel_rfl) ?_ | refine plan_in (id := 9) [0, 1, 2, 3, 4, 5, 6, 7, 8, 9, 10, 11, 12, 13, 14, 15] (by kernel_rfl) (by kernel_rfl) ?_ | refine plan_in (id := 11) [0, 1, 2, 3, 5, 6, 7, 8, 9, 4, 10, 11] (by kernel_rfl) (by kernel_rfl) ?_ | refine aIf_t ?_ | refine aIf_f ?_ | refine load_same ?_ | refine And.intro rfl (And.intro (List.cons_ne_nil _ _) ?_) | refine And.intro (Nat.le_of_ble_eq_true rfl) ?_ | refine callG_t ?_ | refine iTensorOk_call ?_ | refine append_same ?_ | refine takeN_in ?_ | refine And.intro (pureL_ints _ _) ?_ | refine set_force ?_ | refine And.intro (by kernel_rfl) ?_ | refine aIf_ff (by assumption) ?_); conv => whnf) | refine aIf_eqf ?_
      | refine aIf_not ?_)
    refine retTB (hM := sumM_f1 ht) ?_ ?_ ?_ ?_ ?_
    all_goals (first | exact rfl | decide | (simp; done))
end Go.Proofs.YtjmdhfjemaoebaaGreat
namespace Go.Proofs.YtjmdhfjemaoebaaGreat
set_option maxRecDepth 20000
open Go.RowKit Go.Am
attribute [local irreducible] aPlan aGet aIf aLoop aCall RetB NextB CallB CallG aCut aSet aAppend
def sL2Sum : CSpec := fnT (ι := Nat × List Int × Nat × List Int × Nat) 3 (fun | (c, xs, d, zs, a) => [.agg [.sl c xs.length (xs.map (.int .i64)), .sl d zs.length (zs.map (.int .i64))], .int .i64 a]) (fun | (_, xs, _, zs, a) => tensorOk xs zs = true ∧ a < xs.length) (fun | (_, xs, _, _, a) => wo xs a) (fun | (_, xs, _, zs, a) => smTo xs zs a zs.length)
set_option maxHeartbeats 4000000 in
set_option maxRecDepth 10000 in
theorem l2Sum_sound : Sound Tryz.prog 119 sL2Sum := by
  refine sound_of Tryz.func119 rfl (enters_of Tryz.func119 (by kernel_rfl) (by kernel_rfl)) ?_
  rintro ⟨c, xs, d, zs, a⟩ hpre
  have hpre : tensorOk xs zs = true ∧ a < xs.length := hpre
  obtain ⟨ht, ha⟩ := hpre
  obtain ⟨hs, t2, t3⟩ := (tensorOk_iff _ _).1 ht
  have hx := tensor_len ht
  have hf := sum_facts hs ha
  have hc := cnt64 hf.sh (Nat.le_refl _)
  have hwl := wo_length ha
  have hmax : maxLen = 9223372036854775807 := rfl
  conv => whnf
  repeat' (first
    | ((first | refine plan_in (id := 6) [0, 1, 2, 3, 4, 6, 5, 7, 8, 9] (by kernel_rfl) (by kernel_rfl) ?_ | refine plan_in (id := 7) [0, 1, 2, 3, 4, 5, 6, 7, 8, 9, 10, 11, 12, 13, 14, 15] (by kernel_rfl) (by kernel_rfl) ?_ | refine aGet_in rfl ?_ | refine And.intro (And.intro (Int.le_refl _) (And.intro (by kernel_rfl) (And.intro rfl (by kernel_rfl)))) (And.intro (And.intro (by omega) (And.intro (bytes_le (b := 8) rfl (by omega)) (by omega))) ?_) | refine And.intro rfl (And.intro (List.cons_ne_nil _ _) ?_) | refine And.intro (Nat.le_of_ble_eq_true rfl) ?_ | refine callG_t ?_ | refine l2Without_call (by omega) ?_ | refine append_same ?_ | refine And.intro (pureL_ints _ _) ?_ | refine cut_ints ?_ | refine l1Count_call ?_ | refine set_force ?_ | refine And.intro (by kernel_rfl) ?_); conv => whnf))
  refine loop_in (ι := Nat × List Int) (fun | (k, ws) => ⟨[.un, .int .i64 a, .ptr 0 1 0, .un, .ptr 3 4 0, .ptr 8 9 0, .int .i64 k, .un, .un, .un, .un, .un, .un, .un, .un, .un, .un, .un, .un, .un, .un, .un, .un, .un, .un, .un, .un, .un, .un, .un, .un, .un, .un, .un, .un, .un, .un, .un, .un, .un, .un, .un, .un, .un, .un, .un, .un, .un, .un, .un], [bt 1 [.sl c xs.length (xs.map (.int .i64)), .sl d zs.length (zs.map (.int .i64))], nl 2, nl 3, bt 4 [.ref 1 2 0 0, .ref 2 3 0 0], li 5 (wo xs a), nl 6, nl 7, nl 8, bt 9 [.ref 4 5 0 (wo xs a).length, .ref 9 11 0 (cntTo (wo xs a) (wo xs a).length).toNat], li 11 ws], 12, 0⟩)
    (fun x => x.1 ≤ zs.length ∧ x.2 = smTo xs zs a x.1) (fun x => zs.length - x.1) (0, List.replicate (cntTo (wo xs a) (wo xs a).length).toNat 0) ⟨Nat.zero_le _, rfl⟩ ?_ ?_
  · repeat' (first
      | exact trivial | exact rfl
      | exact Or.inl (And.intro rfl rfl) | exact le_ints rfl
      | exact le_ints (rep_ints _ _) | exact Or.inl (And.intro (pureL_pair _ _ _ _ _ _) rfl)
      | refine Or.inr ?_ | refine And.intro ?_ ?_
      | exact Nat.le_of_ble_eq_true rfl)
  · rintro ⟨k, ws⟩ ⟨hk, hws⟩
    have hk : k ≤ zs.length := hk
    have hws : ws = smTo xs zs a k := hws
    have hl : ws.length = (cntTo (wo xs a) (wo xs a).length).toNat := by rw [hws]; exact smTo_length _ _ _ _
    have hpl : (places xs k).length = xs.length := places_length _ _
    have hl1 : (wo (places xs k) a).length = (wo xs a).length := by rw [wo_length (by omega), hwl, hpl]
    by_cases hlt : k < zs.length
    · obtain ⟨f1, f2, f3, f4⟩ := hf.at_ k (by omega)
      have hE : idxTo (wo xs a) (wo (places xs k) a) (wo xs a).length = sumI xs a k := f2.symm
      conv => whnf
      repeat' (first
        | ((first | refine plan_in (id := 6) [0, 1, 2, 3, 4, 6, 5, 7, 8, 9] (by kernel_rfl) (by kernel_rfl) ?_ | refine plan_in (id := 7) [0, 1, 2, 3, 4, 5, 6, 7, 8, 9, 10, 11, 12, 13, 14, 15] (by kernel_rfl) (by kernel_rfl) ?_ | refine fun (_ : _ ≤ maxLen) => ?_ | refine get_int0 (by omega) ?_ | refine get_nat (by omega) ?_ | refine aGet_in rfl ?_ | refine And.intro (by omega) ?_ | refine load_same ?_ | refine l2Without_call (by omega) ?_ | refine append_same ?_ | refine takeN_in ?_ | refine And.intro (pureL_ints _ _) ?_ | refine cut_ints ?_ | refine l1Index_call (by assumption) ?_ | refine l1Place_call (by assumption) ?_ | refine And.intro rfl (And.intro rfl (And.intro (by first | omega | (rw [List.length_map]; omega)) ?_)) | refine set_int ?_ (by omega) | refine set_force ?_); conv => whnf) | (refine aIf_dec (fun _ => ?_) (fun _ => ?_) <;> conv => whnf))
      all_goals (first | (exfalso; omega) | skip)
      rw [hE]
      refine next_in (k + 1, ws.set (sumI xs a k).toNat (IntKind.i64.wrap (ws.getD (sumI xs a k).toNat 0 + zs.getD k 0))) (show zs.length - (k + 1) < zs.length - k by omega) ⟨(show k + 1 ≤ zs.length by omega), by subst hws; rfl⟩ ?_
      repeat' (first
        | exact trivial | exact rfl
        | exact Or.inl (And.intro rfl rfl) | exact le_ints rfl
        | exact Or.inl (And.intro (pureL_pair _ _ _ _ _ _) rfl) | refine Or.inr ?_
        | refine And.intro ?_ ?_ | exact Nat.le_of_ble_eq_true rfl
        | exact int_eq (by rw [IntWalk.i64_in _ (by omega)] <;> omega))
    · have hke : k = zs.length := by omega
      conv => whnf
      repeat' (first
        | ((first | refine plan_in (id := 6) [0, 1, 2, 3, 4, 6, 5, 7, 8, 9] (by kernel_rfl) (by kernel_rfl) ?_ | refine plan_in (id := 7) [0, 1, 2, 3, 4, 5, 6, 7, 8, 9, 10, 11, 12, 13, 14, 15] (by kernel_rfl) (by kernel_rfl) ?_ | refine fun (_ : _ ≤ maxLen) => ?_ | refine get_nat0 (by omega) ?_ | refine get_nat (by omega) ?_ | refine aGet_in rfl ?_ | refine And.intro (by omega) ?_ | refine load_same ?_ | refine And.intro (Nat.le_of_ble_eq_true rfl) ?_ | refine l2Without_call (by omega) ?_ | refine append_same ?_ | refine takeN_in ?_ | refine cut_ints ?_ | refine l1Index_call (by assumption) ?_ | refine l1Place_call (by assumption) ?_ | refine set_nat ?_ (by omega) | refine set_force ?_ | refine And.intro (by kernel_rfl) ?_); conv => whnf) | (refine aIf_dec (fun _ => ?_) (fun _ => ?_) <;> conv => whnf))
      all_goals (first | (exfalso; omega) | skip)
      subst hke
      subst hws
      refine retT ?_ ?_ ?_ ?_ ?_
      all_goals (first | exact rfl | decide | exact (smTo_length _ _ _ _).symm)
theorem l2Sum_call {c d : Nat} {xs zs : List Int} {a : Nat} {env : List AV} {rows : List Row} {ctr low : Nat} {k : AV → St → Prop} (hpre : tensorOk xs zs = true ∧ a < xs.length)
    (hk : k (.agg [.ref rows.length ctr 0 (wo xs a).length, .ref (rows.length + 1) ctr 0 (smTo xs zs a zs.length).length]) ⟨env, rows ++ [⟨ctr, 3, 1, (wo xs a).map (.int .i64)⟩, ⟨ctr, 3, 1, (smTo xs zs a zs.length).map (.int .i64)⟩], ctr + 1, low⟩) :
    CallB Tryz.prog 119 ⟨env, rows, ctr, low⟩ [.agg [.sl c xs.length (xs.map (.int .i64)), .sl d zs.length (zs.map (.int .i64))], .int .i64 a] k := callT_in l2Sum_sound (c, xs, d, zs, a) hpre hk
theorem iSumAlong_call {c d : Nat} {xs zs : List Int} {i : Int} {env : List AV} {rows : List Row} {ctr low : Nat} {k : AV → St → Prop} (hpre : xs.length ≤ 1048576)
    (hk : k (.tup [.agg [.ref rows.length ctr 0 (sumM xs zs i).1.length, .ref (rows.length + 1) ctr 0 (sumM xs zs i).2.1.length], .bool (sumM xs zs i).2.2]) ⟨env, rows ++ [⟨ctr, 3, 1, (sumM xs zs i).1.map (.int .i64)⟩, ⟨ctr, 3, 1, (sumM xs zs i).2.1.map (.int .i64)⟩], ctr + 1, low⟩) :
    CallB Tryz.prog 165 ⟨env, rows, ctr, low⟩ [.agg [.sl c xs.length (xs.map (.int .i64)), .sl d zs.length (zs.map (.int .i64))], .int .i64 i] k := callTB_in iSumAlong_sound (c, xs, d, zs, i) hpre hk
end Go.Proofs.YtjmdhfjemaoebaaGreat
namespace Go.Proofs.YtjmdhfjemaoebaaGreat
set_option maxRecDepth 20000
open Go.RowKit Go.Am
def cutSel (xs : List Int) (a : Nat) (f m : Int) (k : Nat) : Bool := decide (f ≤ (places xs k).getD a 0 ∧ (places xs k).getD a 0 ≤ f + m - 1)
def cutSh (xs : List Int) (a : Nat) (m : Int) : List Int := xs.set a m
def cutAt (xs : List Int) (a : Nat) (f m : Int) (i : Nat) : Int := rdAt (cutSh xs a m) (strides xs) (f * (strides xs).getD a 0) i
def cutOne (xs : List Int) (a : Nat) (f m : Int) : Bool := shapeOk (cutSh xs a m) && ((List.range (cntTo (cutSh xs a m) xs.length).toNat).all fun i => decide (0 ≤ cutAt xs a f m i) && decide (cutAt xs a f m i < cntTo xs xs.length)) &&
  ((List.range (cntTo xs xs.length).toNat).filter (cutSel xs a f m) == (List.range (cntTo (cutSh xs a m) xs.length).toNat).map fun i => (cutAt xs a f m i).toNat)
def cutChk (xs : List Int) : Bool := (List.range xs.length).all fun a => sizes.all fun m => [0, 1, 2, 3].all fun f => decide (xs.getD a 0 < f + m) || cutOne xs a f m
theorem cutChk_2 : shapes2.all cutChk = true := by kernel_rfl
theorem cutChk_31 : (shapes3 1).all cutChk = true := by kernel_rfl
theorem cutChk_32 : (shapes3 2).all cutChk = true := by kernel_rfl
theorem cutChk_33 : (shapes3 3).all cutChk = true := by kernel_rfl
theorem cutChk_34 : (shapes3 4).all cutChk = true := by kernel_rfl
structure CutFacts (xs : List Int) (a : Nat) (f m : Int) : Prop where
  sh : shapeOk (cutSh xs a m) = true
  at_ : ∀ i : Nat, (i : Int) < cntTo (cutSh xs a m) xs.length → 0 ≤ cutAt xs a f m i ∧ cutAt xs a f m i < cntTo xs xs.length
  sel : (List.range (cntTo xs xs.length).toNat).filter (cutSel xs a f m) = (List.range (cntTo (cutSh xs a m) xs.length).toNat).map fun i => (cutAt xs a f m i).toNat
theorem cut_facts {xs : List Int} (hs : shapeOk xs = true) {a : Nat} (ha : a < xs.length) {f m : Int} (hf : 0 ≤ f) (hm : 1 ≤ m) (hfm : f + m ≤ xs.getD a 0) : CutFacts xs a f m := by
  have h := shape_all cutChk_2 cutChk_31 cutChk_32 cutChk_33 cutChk_34 hs
  have hz := size_in hs ha
  unfold cutChk at h
  simp only [List.all_eq_true] at h
  have hmm : m ∈ sizes := size_mem (by omega)
  have hff : f ∈ ([0, 1, 2, 3] : List Int) := by
    have : f = 0 ∨ f = 1 ∨ f = 2 ∨ f = 3 := by omega
    simpa using this
  have h := h a (List.mem_range.2 ha) m hmm f hff
  rw [Bool.or_eq_true, decide_eq_true_iff] at h
  rcases h with h | h
  · omega
  unfold cutOne at h
  simp only [Bool.and_eq_true, decide_eq_true_eq, beq_iff_eq, List.all_eq_true] at h
  obtain ⟨⟨h1, h2⟩, h3⟩ := h
  exact ⟨h1, fun i hi => h2 i (List.mem_range.2 (by omega)), h3⟩
end Go.Proofs.YtjmdhfjemaoebaaGreat
namespace Go.Proofs.YtjmdhfjemaoebaaGreat
set_option maxRecDepth 20000
open Go.RowKit Go.Am
attribute [local irreducible] aPlan aGet aIf aLoop aCall RetB NextB CallB CallG aCut aSet aAppend
def cutP (xs zs : List Int) (i f m : Int) : Prop := tensorOk xs zs = true ∧ (0 ≤ i ∧ i < xs.length) ∧ 0 ≤ f ∧ 1 ≤ m ∧ f + m ≤ xs.getD i.toNat 0
instance (xs zs : List Int) (i f m : Int) : Decidable (cutP xs zs i f m) := by unfold cutP; infer_instance
def cutM (xs zs : List Int) (i f m : Int) : TM := if cutP xs zs i f m then (cutSh xs i.toNat m, rdL zs (cutSh xs i.toNat m) (strides xs) (f * (strides xs).getD i.toNat 0), true) else noT
theorem cutM_t {xs zs : List Int} {a : Nat} {f m : Int} (h : cutP xs zs a f m) : cutM xs zs a f m = (cutSh xs a m, rdL zs (cutSh xs a m) (strides xs) (f * (strides xs).getD a 0), true) := by
  unfold cutM; rw [if_pos h, Int.toNat_natCast]
theorem cutM_f {xs zs : List Int} {i f m : Int} (h : ¬ cutP xs zs i f m) : cutM xs zs i f m = noT := if_neg h
theorem cutSh_length (xs : List Int) (a : Nat) (m : Int) : (cutSh xs a m).length = xs.length := by simp [cutSh]
theorem cut_facts' {xs zs : List Int} {a : Nat} {f m : Int} (h : cutP xs zs a f m) : shapeOk xs = true ∧ a < xs.length ∧ CutFacts xs a f m := by
  obtain ⟨h1, h2, h3, h4, h5⟩ := h
  have hs := ((tensorOk_iff _ _).1 h1).1
  have ha : a < xs.length := by omega
  rw [Int.toNat_natCast] at h5
  exact ⟨hs, ha, cut_facts hs ha h3 h4 h5⟩
theorem cut_pre {xs zs : List Int} {a : Nat} {f m : Int} (h : cutP xs zs a f m) : RdPre zs (cutSh xs a m) (strides xs) (f * (strides xs).getD a 0) := by
  obtain ⟨hs, ha, hf⟩ := cut_facts' h
  have t2 := ((tensorOk_iff _ _).1 h.1).2.1
  have hz := size_in hs ha
  have h5 := h.2.2.2.2
  rw [Int.toNat_natCast] at h5
  have hst := strides_in hs ha
  have hm := mul_in (a := f) (b := (strides xs).getD a 0) ⟨h.2.2.1, by have := h.2.2.2.1; omega⟩ (by omega)
  refine ⟨hf.sh, by rw [strides_length, cutSh_length], fun j hj => ?_, by omega, fun i hi => ?_⟩
  · rw [cutSh_length] at hj
    have := strides_in hs hj
    omega
  · rw [cutSh_length] at hi
    have := hf.at_ i hi
    have e : rdAt (cutSh xs a m) (strides xs) (f * (strides xs).getD a 0) i = cutAt xs a f m i := rfl
    rw [e]; omega
def sCutOf : CSpec := fnTB (ι := Nat × List Int × Nat × List Int × Int × Int × Int) 3 (fun | (c, xs, d, zs, i, f, m) => [.agg [.sl c xs.length (xs.map (.int .i64)), .sl d zs.length (zs.map (.int .i64))], .int .i64 i, .int .i64 f, .int .i64 m]) (fun | (_, xs, _, _, _, f, m) => xs.length ≤ 1048576 ∧ (Lit.int .i64 f).wf = true ∧ (Lit.int .i64 m).wf = true) (fun | (_, xs, _, zs, i, f, m) => cutM xs zs i f m)
theorem wf_in {z : Int} (h : (Lit.int .i64 z).wf = true) : -9223372036854775808 ≤ z ∧ z ≤ 9223372036854775807 := by
  simp only [Lit.wf, Bool.and_eq_true, decide_eq_true_iff] at h
  have h1 : IntKind.i64.min = -9223372036854775808 := rfl
  have h2 : IntKind.i64.max = 9223372036854775807 := rfl
  omega
set_option maxHeartbeats 4000000 in
set_option maxRecDepth 10000 in
theorem iCutOf_sound : Sound Tryz.prog 168 sCutOf := by
  refine sound_of Tryz.func168 rfl (enters_of Tryz.func168 (by kernel_rfl) (by kernel_rfl)) ?_
  rintro ⟨c, xs, d, zs, i, f, m⟩ hpre
  have hpre : xs.length ≤ 1048576 ∧ (Lit.int .i64 f).wf = true ∧ (Lit.int .i64 m).wf = true := hpre
  obtain ⟨hp1, hp2, hp3⟩ := hpre
  have hp2 := wf_in hp2
  have hp3 := wf_in hp3
  rcases tensor_or xs zs with ⟨ht, hx, hz⟩ | ht
  · by_cases hi : 0 ≤ i ∧ i < xs.length
    · obtain ⟨a, rfl⟩ : ∃ a : Nat, i = a := ⟨i.toNat, by omega⟩
      obtain ⟨hs, t2, t3⟩ := (tensorOk_iff _ _).1 ht
      have ha : a < xs.length := by omega
      have hsz := size_in hs ha
      by_cases hm : 1 ≤ m
      · have hw : IntKind.i64.wrap (xs.getD a 0 - m) = xs.getD a 0 - m := IntWalk.i64_in _ (by omega)
        by_cases hP : 0 ≤ f ∧ f + m ≤ xs.getD a 0
        · have hC : cutP xs zs a f m := ⟨ht, hi, hP.1, hm, by rw [Int.toNat_natCast]; exact hP.2⟩
          have hrd := cut_pre hC
          have hso : stridesOf xs = strides xs := if_pos hs
          have hsl : (stridesOf xs).length = xs.length := by rw [hso, strides_length]
          have hst := strides_in hs ha
          have hmi := mul_in (a := f) (b := (strides xs).getD a 0) (by omega) (by omega)
          have hw2 : IntKind.i64.wrap (f * (strides xs).getD a 0) = f * (strides xs).getD a 0 := IntWalk.i64_in _ (by omega)
          have hsh : xs.set a m = cutSh xs a m := rfl
          have hcl := cutSh_length xs a m
          have hM := cutM_t hC
          conv => whnf
          repeat' (first
            | ((first | refine plan_in (id := 8) [0, 1, 2, 3, 4, 5, 6, 7, 8, 9, 10, 11, 12] (by kernel_rfl) (by kernel_rfl) ?_ | refine aIf_t ?_ | refine aIf_f ?_ | refine get_nat0 (by omega) ?_ | refine get_nat (by omega) ?_ | refine aGet_in rfl ?_ | refine And.intro (by omega) ?_ | refine load_same ?_ | refine And.intro rfl (And.intro (List.cons_ne_nil _ _) ?_) | refine And.intro (Nat.le_of_ble_eq_true rfl) ?_ | refine callG_t ?_ | refine copyNums_call (by omega) ?_ | refine axisOk_call ?_ | refine iTensorOk_call ?_ | refine append_same ?_ | refine takeN_in ?_ | refine And.intro (pureL_ints _ _) ?_ | refine iStridesOf_call (by omega) ?_ | refine And.intro rfl (And.intro rfl (And.intro (by first | omega | (rw [List.length_map]; omega)) ?_)) | refine set_nat ?_ (by omega) | refine set_force ?_ | refine And.intro (by kernel_rfl) ?_ | refine aIf_tt (by assumption) ?_); conv => whnf) | refine aIf_eqf ?_
            | refine aIf_not ?_ | (refine aIf_dec (fun _ => ?_) (fun _ => ?_) <;> conv => whnf))
          all_goals (first | (exfalso; omega) | skip)
          rw [hsh]
          refine cut_all (by simp [hcl]) (scalL_ints _ _) ?_
          conv => whnf
          repeat' (first
            | ((first | refine plan_in (id := 8) [0, 1, 2, 3, 4, 5, 6, 7, 8, 9, 10, 11, 12] (by kernel_rfl) (by kernel_rfl) ?_ | refine append_same ?_ | refine cut_ints ?_); conv => whnf))
          rw [hso, hw2]
          repeat' (first
            | ((first | refine plan_in (id := 8) [0, 1, 2, 3, 4, 5, 6, 7, 8, 9, 10, 11, 12] (by kernel_rfl) (by kernel_rfl) ?_ | refine And.intro (Nat.le_of_ble_eq_true rfl) ?_ | refine readBy_call (by assumption) (by first | rfl | omega) (by first | rfl | omega) (by first | rfl | omega) ?_ | refine append_same ?_ | refine takeN_in ?_ | refine set_force ?_ | refine And.intro (by kernel_rfl) ?_); conv => whnf))
          refine retTB (hM := hM) ?_ ?_ ?_ ?_ ?_
          all_goals (first | exact rfl | decide | (simp; done))
        · have hC : ¬ cutP xs zs a f m := fun h => hP ⟨h.2.2.1, by have := h.2.2.2.2; rwa [Int.toNat_natCast] at this⟩
          conv => whnf
          repeat' (first
            | ((first | refine plan_in (id := 8) [0, 1, 2, 3, 4, 5, 6, 7, 8, 9, 10, 11, 12] (by kernel_rfl) (by kernel_rfl) ?_ | refine aIf_t ?_ | refine aIf_f ?_ | refine get_nat0 (by omega) ?_ | refine get_nat (by omega) ?_ | refine aGet_in rfl ?_ | refine And.intro (by omega) ?_ | refine load_same ?_ | refine And.intro rfl (And.intro (List.cons_ne_nil _ _) ?_) | refine And.intro (Nat.le_of_ble_eq_true rfl) ?_ | refine callG_t ?_ | refine copyNums_call (by omega) ?_ | refine axisOk_call ?_ | refine iTensorOk_call ?_ | refine append_same ?_ | refine takeN_in ?_ | refine And.intro (pureL_ints _ _) ?_ | refine cut_ints ?_ | refine cut_all (by simp only [List.length_map]; omega) (scalL_ints _ _) ?_ | refine iStridesOf_call (by omega) ?_ | refine set_nat ?_ (by omega) | refine set_force ?_ | refine And.intro (by kernel_rfl) ?_ | refine aIf_tt (by assumption) ?_); conv => whnf) | refine aIf_eqf ?_
            | refine aIf_not ?_ | (refine aIf_dec (fun _ => ?_) (fun _ => ?_) <;> conv => whnf))
          all_goals (first | (exfalso; omega) | skip)
          · refine retTB (hM := cutM_f hC) ?_ ?_ ?_ ?_ ?_
            all_goals (first | exact rfl | decide | (simp; done))
          · refine retTB (hM := cutM_f hC) ?_ ?_ ?_ ?_ ?_
            all_goals (first | exact rfl | decide | (simp; done))
      · have hC : ¬ cutP xs zs a f m := fun h => hm h.2.2.2.1
        conv => whnf
        repeat' (first
          | ((first | refine plan_in (id := 8) [0, 1, 2, 3, 4, 5, 6, 7, 8, 9, 10, 11, 12] (by kernel_rfl) (by kernel_rfl) ?_ | refine aIf_t ?_ | refine aIf_f ?_ | refine get_nat0 (by omega) ?_ | refine get_nat (by omega) ?_ | refine aGet_in rfl ?_ | refine And.intro (by omega) ?_ | refine load_same ?_ | refine And.intro rfl (And.intro (List.cons_ne_nil _ _) ?_) | refine And.intro (Nat.le_of_ble_eq_true rfl) ?_ | refine callG_t ?_ | refine copyNums_call (by omega) ?_ | refine axisOk_call ?_ | refine iTensorOk_call ?_ | refine append_same ?_ | refine takeN_in ?_ | refine And.intro (pureL_ints _ _) ?_ | refine cut_ints ?_ | refine cut_all (by simp only [List.length_map]; omega) (scalL_ints _ _) ?_ | refine iStridesOf_call (by omega) ?_ | refine set_nat ?_ (by omega) | refine set_force ?_ | refine And.intro (by kernel_rfl) ?_ | refine aIf_tt (by assumption) ?_); conv => whnf) | refine aIf_eqf ?_
          | refine aIf_not ?_ | (refine aIf_dec (fun _ => ?_) (fun _ => ?_) <;> conv => whnf))
        all_goals (first | (exfalso; omega) | skip)
        refine retTB (hM := cutM_f hC) ?_ ?_ ?_ ?_ ?_
        all_goals (first | exact rfl | decide | (simp; done))
    · have hC : ¬ cutP xs zs i f m := fun h => hi h.2.1
      conv => whnf
      repeat' (first
        | ((first | refine plan_in (id := 8) [0, 1, 2, 3, 4, 5, 6, 7, 8, 9, 10, 11, 12] (by kernel_rfl) (by kernel_rfl) ?_ | refine aIf_t ?_ | refine aIf_f ?_ | refine get_nat0 (by omega) ?_ | refine get_nat (by omega) ?_ | refine aGet_in rfl ?_ | refine And.intro (by omega) ?_ | refine load_same ?_ | refine And.intro rfl (And.intro (List.cons_ne_nil _ _) ?_) | refine And.intro (Nat.le_of_ble_eq_true rfl) ?_ | refine callG_t ?_ | refine copyNums_call (by omega) ?_ | refine axisOk_call ?_ | refine iTensorOk_call ?_ | refine append_same ?_ | refine takeN_in ?_ | refine And.intro (pureL_ints _ _) ?_ | refine cut_ints ?_ | refine cut_all (by simp only [List.length_map]; omega) (scalL_ints _ _) ?_ | refine iStridesOf_call (by omega) ?_ | refine set_nat ?_ (by omega) | refine set_force ?_ | refine And.intro (by kernel_rfl) ?_ | refine aIf_tt (by assumption) ?_); conv => whnf) | refine aIf_eqf ?_
        | refine aIf_not ?_ | (refine aIf_dec (fun _ => ?_) (fun _ => ?_) <;> conv => whnf))
      all_goals (first | (exfalso; omega) | skip)
      refine retTB (hM := cutM_f hC) ?_ ?_ ?_ ?_ ?_
      all_goals (first | exact rfl | decide | (simp; done))
  · have hC : ¬ cutP xs zs i f m := fun h => Bool.false_ne_true (ht.symm.trans h.1)
    conv => whnf
    repeat' (first
      | ((first | refine plan_in (id := 8) [0, 1, 2, 3, 4, 5, 6, 7, 8, 9, 10, 11, 12] (by kernel_rfl) (by kernel_rfl) ?_ | refine aIf_t ?_ | refine aIf_f ?_ | refine load_same ?_ | refine And.intro rfl (And.intro (List.cons_ne_nil _ _) ?_) | refine And.intro (Nat.le_of_ble_eq_true rfl) ?_ | refine callG_t ?_ | refine iTensorOk_call ?_ | refine append_same ?_ | refine takeN_in ?_ | refine And.intro (pureL_ints _ _) ?_ | refine set_force ?_ | refine And.intro (by kernel_rfl) ?_ | refine aIf_ff (by assumption) ?_); conv => whnf) | refine aIf_eqf ?_
      | refine aIf_not ?_)
    refine retTB (hM := cutM_f hC) ?_ ?_ ?_ ?_ ?_
    all_goals (first | exact rfl | decide | (simp; done))
end Go.Proofs.YtjmdhfjemaoebaaGreat
namespace Go.Proofs.YtjmdhfjemaoebaaGreat
set_option maxRecDepth 20000
open Go.RowKit Go.Am
attribute [local irreducible] aPlan aGet aIf aLoop aCall RetB NextB CallB CallG aCut aSet aAppend
def cutTo (xs zs : List Int) (a : Nat) (f m : Int) (k : Nat) : List Int := ((List.range k).filter (cutSel xs a f m)).map fun j => zs.getD j 0
theorem cutTo_t {xs zs : List Int} {a : Nat} {f m : Int} {k : Nat} (h : cutSel xs a f m k = true) : cutTo xs zs a f m (k + 1) = cutTo xs zs a f m k ++ [zs.getD k 0] := by
  unfold cutTo; rw [List.range_succ, List.filter_append, List.map_append]; simp [h]
theorem cutTo_f {xs zs : List Int} {a : Nat} {f m : Int} {k : Nat} (h : cutSel xs a f m k = false) : cutTo xs zs a f m (k + 1) = cutTo xs zs a f m k := by
  unfold cutTo; rw [List.range_succ, List.filter_append, List.map_append]; simp [h]
theorem cutTo_le (xs zs : List Int) (a : Nat) (f m : Int) (k : Nat) : (cutTo xs zs a f m k).length ≤ k := by
  unfold cutTo; rw [List.length_map]
  exact Nat.le_trans (List.length_filter_le _ _) (by simp)
def sL2Cut : CSpec := fnT (ι := Nat × List Int × Nat × List Int × Nat × Int × Int) 3 (fun | (c, xs, d, zs, a, f, m) => [.agg [.sl c xs.length (xs.map (.int .i64)), .sl d zs.length (zs.map (.int .i64))], .int .i64 a, .int .i64 f, .int .i64 m]) (fun | (_, xs, _, zs, a, f, m) => cutP xs zs a f m) (fun | (_, xs, _, _, a, _, m) => cutSh xs a m) (fun | (_, xs, _, zs, a, f, m) => rdL zs (cutSh xs a m) (strides xs) (f * (strides xs).getD a 0))
set_option maxHeartbeats 4000000 in
set_option maxRecDepth 10000 in
theorem l2Cut_sound : Sound Tryz.prog 111 sL2Cut := by
  refine sound_of Tryz.func111 rfl (enters_of Tryz.func111 (by kernel_rfl) (by kernel_rfl)) ?_
  rintro ⟨c, xs, d, zs, a, f, m⟩ hpre
  have hpre : cutP xs zs a f m := hpre
  obtain ⟨hs, ha, hf⟩ := cut_facts' hpre
  obtain ⟨ht, hi, hf0, hm1, hfm⟩ := hpre
  rw [Int.toNat_natCast] at hfm
  have t2 := ((tensorOk_iff _ _).1 ht).2.1
  have hx := tensor_len ht
  have hsz := size_in hs ha
  have hw : IntKind.i64.wrap (IntKind.i64.wrap (f + m) - 1) = f + m - 1 := by rw [IntWalk.i64_in (f + m) (by omega)]; exact IntWalk.i64_in _ (by omega)
  have hmax : maxLen = 9223372036854775807 := rfl
  conv => whnf
  repeat' (first
    | ((first | refine plan_in (id := 7) [0, 1, 2, 3, 4, 5, 6, 7, 8, 9, 10] (by kernel_rfl) (by kernel_rfl) ?_ | refine aGet_in rfl ?_ | refine And.intro (by omega) ?_ | refine And.intro rfl (And.intro (List.cons_ne_nil _ _) ?_) | refine And.intro (Nat.le_of_ble_eq_true rfl) ?_ | refine callG_t ?_ | refine l2Nums_call (by omega) ?_ | refine append_same ?_ | refine And.intro (pureL_ints _ _) ?_ | refine And.intro rfl (And.intro rfl (And.intro (by first | omega | (rw [List.length_map]; omega)) ?_)) | refine set_nat ?_ (by omega) | refine set_force ?_ | refine And.intro (by kernel_rfl) ?_); conv => whnf))
  refine loop_in (ι := Nat × List Int) (fun | (k, ws) => ⟨[.un, .int .i64 a, .int .i64 f, .int .i64 m, .ptr 0 1 0, .un, .un, .un, .ptr 3 4 0, .ptr 8 9 0, .int .i64 k, .un, .un, .un, .un, .un, .un, .un, .un, .un, .un, .un, .un, .un, .un, .un, .un, .un, .un, .un, .un, .un, .un, .un, .un, .un, .un, .un, .un, .un, .un, .un, .un, .un, .un, .un, .un, .un, .un, .un, .un], [bt 1 [.sl c xs.length (xs.map (.int .i64)), .sl d zs.length (zs.map (.int .i64))], nl 2, nl 3, bt 4 [.ref 1 2 0 0, .ref 2 3 0 0], li 5 (xs.set a m), li 6 ws, nl 7, nl 8, bt 9 [.ref 4 5 0 xs.length, .ref 5 6 0 ws.length]], 10, 0⟩)
    (fun x => x.1 ≤ zs.length ∧ x.2 = cutTo xs zs a f m x.1) (fun x => zs.length - x.1) (0, []) ⟨Nat.zero_le _, rfl⟩ ?_ ?_
  · repeat' (first
      | exact trivial | exact rfl
      | exact Or.inl (And.intro rfl rfl) | exact le_ints rfl
      | exact Or.inl (And.intro (pureL_pair _ _ _ _ _ _) rfl) | refine Or.inr ?_
      | refine And.intro ?_ ?_ | exact Nat.le_of_ble_eq_true rfl)
  · rintro ⟨k, ws⟩ ⟨hk, hws⟩
    have hk : k ≤ zs.length := hk
    have hws : ws = cutTo xs zs a f m k := hws
    have hl : ws.length ≤ k := by rw [hws]; exact cutTo_le _ _ _ _ _ _
    have hpl : (places xs k).length = xs.length := places_length _ _
    by_cases hlt : k < zs.length
    · conv => whnf
      repeat' (first
        | ((first | refine plan_in (id := 7) [0, 1, 2, 3, 4, 5, 6, 7, 8, 9, 10] (by kernel_rfl) (by kernel_rfl) ?_ | refine fun (_ : _ ≤ maxLen) => ?_ | refine get_nat0 (by omega) ?_ | refine get_nat (by omega) ?_ | refine aGet_in rfl ?_ | refine And.intro (by omega) ?_ | refine load_same ?_ | refine And.intro (Nat.le_of_ble_eq_true rfl) ?_ | refine callG_t ?_ | refine append_same ?_ | refine takeN_in ?_ | refine And.intro (pureL_ints _ _) ?_ | refine in_call ?_ | refine append_int rfl rfl (by first | rfl | (simp only [List.length_take, turned_length]; omega)) (by omega) (Nat.le_of_ble_eq_true rfl) ?_ | refine l1Place_call (by assumption) ?_ | refine set_force ?_ | refine And.intro (And.intro (by kernel_rfl) (And.intro rfl (Nat.le_of_ble_eq_true rfl))) ?_ | refine And.intro (by kernel_rfl) ?_); conv => whnf) | (refine aIf_dec (fun _ => ?_) (fun _ => ?_) <;> conv => whnf))
      all_goals (first | (exfalso; omega) | skip)
      · rename_i hP
        have hsel : cutSel xs a f m k = true := by unfold cutSel; rw [decide_eq_true_iff]; omega
        refine next_in (k + 1, ws ++ [zs.getD k 0]) (show zs.length - (k + 1) < zs.length - k by omega) ⟨(show k + 1 ≤ zs.length by omega), by rw [cutTo_t hsel, hws]⟩ ?_
        repeat' (first
          | exact trivial | exact rfl
          | exact Or.inl (And.intro rfl rfl) | exact le_ints rfl
          | exact Or.inl (And.intro (pureL_pair _ _ _ _ _ _) rfl) | refine Or.inr ?_
          | refine And.intro ?_ ?_ | exact Nat.le_of_ble_eq_true rfl
          | exact List.length_append | exact int_eq (by rw [IntWalk.i64_in _ (by omega)] <;> omega))
      · rename_i hP
        have hsel : cutSel xs a f m k = false := by unfold cutSel; rw [decide_eq_false_iff_not]; omega
        refine next_in (k + 1, ws) (show zs.length - (k + 1) < zs.length - k by omega) ⟨(show k + 1 ≤ zs.length by omega), by rw [cutTo_f hsel, hws]⟩ ?_
        repeat' (first
          | exact trivial | exact rfl
          | exact Or.inl (And.intro rfl rfl) | exact le_ints rfl
          | exact Or.inl (And.intro (pureL_pair _ _ _ _ _ _) rfl) | refine Or.inr ?_
          | refine And.intro ?_ ?_ | exact Nat.le_of_ble_eq_true rfl
          | exact int_eq (by rw [IntWalk.i64_in _ (by omega)] <;> omega))
    · have hke : (cntTo xs xs.length).toNat = k := by omega
      have e : ws = rdL zs (cutSh xs a m) (strides xs) (f * (strides xs).getD a 0) := by
        have h1 := hf.sel
        rw [hke] at h1
        rw [hws]
        unfold cutTo rdL
        rw [h1, List.map_map, cutSh_length]
        rfl
      subst e
      conv => whnf
      repeat' (first
        | ((first | refine plan_in (id := 7) [0, 1, 2, 3, 4, 5, 6, 7, 8, 9, 10] (by kernel_rfl) (by kernel_rfl) ?_ | refine fun (_ : _ ≤ maxLen) => ?_ | refine get_nat0 (by omega) ?_ | refine get_nat (by omega) ?_ | refine aGet_in rfl ?_ | refine And.intro (by omega) ?_ | refine load_same ?_ | refine And.intro (Nat.le_of_ble_eq_true rfl) ?_ | refine callG_t ?_ | refine append_same ?_ | refine takeN_in ?_ | refine in_call ?_ | refine append_int rfl rfl (by first | rfl | (simp only [List.length_take, turned_length]; omega)) (by omega) (Nat.le_of_ble_eq_true rfl) ?_ | refine l1Place_call (by assumption) ?_ | refine set_force ?_ | refine And.intro (by kernel_rfl) ?_); conv => whnf) | (refine aIf_dec (fun _ => ?_) (fun _ => ?_) <;> conv => whnf))
      all_goals (first | (exfalso; omega) | skip)
      refine retT ?_ ?_ ?_ ?_ ?_
      all_goals (first | exact rfl | decide | exact (cutSh_length _ _ _).symm)
theorem l2Cut_call {c d : Nat} {xs zs : List Int} {a : Nat} {f m : Int} {env : List AV} {rows : List Row} {ctr low : Nat} {k : AV → St → Prop} (hpre : cutP xs zs a f m)
    (hk : k (.agg [.ref rows.length ctr 0 (cutSh xs a m).length, .ref (rows.length + 1) ctr 0 (rdL zs (cutSh xs a m) (strides xs) (f * (strides xs).getD a 0)).length]) ⟨env, rows ++ [⟨ctr, 3, 1, (cutSh xs a m).map (.int .i64)⟩, ⟨ctr, 3, 1, (rdL zs (cutSh xs a m) (strides xs) (f * (strides xs).getD a 0)).map (.int .i64)⟩], ctr + 1, low⟩) :
    CallB Tryz.prog 111 ⟨env, rows, ctr, low⟩ [.agg [.sl c xs.length (xs.map (.int .i64)), .sl d zs.length (zs.map (.int .i64))], .int .i64 a, .int .i64 f, .int .i64 m] k := callT_in l2Cut_sound (c, xs, d, zs, a, f, m) hpre hk
theorem iCutOf_call {c d : Nat} {xs zs : List Int} {i f m : Int} {env : List AV} {rows : List Row} {ctr low : Nat} {k : AV → St → Prop} (hpre : xs.length ≤ 1048576 ∧ (Lit.int .i64 f).wf = true ∧ (Lit.int .i64 m).wf = true)
    (hk : k (.tup [.agg [.ref rows.length ctr 0 (cutM xs zs i f m).1.length, .ref (rows.length + 1) ctr 0 (cutM xs zs i f m).2.1.length], .bool (cutM xs zs i f m).2.2]) ⟨env, rows ++ [⟨ctr, 3, 1, (cutM xs zs i f m).1.map (.int .i64)⟩, ⟨ctr, 3, 1, (cutM xs zs i f m).2.1.map (.int .i64)⟩], ctr + 1, low⟩) :
    CallB Tryz.prog 168 ⟨env, rows, ctr, low⟩ [.agg [.sl c xs.length (xs.map (.int .i64)), .sl d zs.length (zs.map (.int .i64))], .int .i64 i, .int .i64 f, .int .i64 m] k := callTB_in iCutOf_sound (c, xs, d, zs, i, f, m) hpre hk
end Go.Proofs.YtjmdhfjemaoebaaGreat
