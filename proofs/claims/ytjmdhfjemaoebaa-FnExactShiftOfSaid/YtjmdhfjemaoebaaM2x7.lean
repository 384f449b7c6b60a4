import Derived.Test.YtjmdhfjemaoebaaM2x6
import Derived.Test.YtjmdhfjemaoebaaM2x5
import Derived.Test.YtjmdhfjemaoebaaM012x13
/- Chapter 7: ShiftOf of the model. -/
namespace Go.Proofs.Ytjmdhfjemaoebaa
set_option maxRecDepth 20000
open Go.RowKit Go.Am
set_option linter.unusedSimpArgs false
attribute [local irreducible] aPlan aGet aIf aLoop aCall RetB NextB CallB CallG aCut aSet aAppend
set_option maxHeartbeats 8000000 in
theorem sShiftOf_sound : Sound Try.prog 29 sShiftOf := by
  refine sound_of Try.func29 rfl (enters_of Try.func29 (by kernel_rfl) (by kernel_rfl)) ?_
  rintro ⟨c, ts, d, us, n⟩ hpre
  obtain ⟨ht, hu, hn⟩ : ts.length ≤ 1048576 ∧ us.length ≤ 1048576 ∧ (Lit.int .i64 n).wf = true := hpre
  have hmax : maxLen = 9223372036854775807 := rfl
  by_cases hC : sgC ts us n
  · obtain ⟨c1, c2, c3, c4⟩ := hC
    have hC : sgC ts us n := ⟨c1, c2, c3, c4⟩
    conv => whnf
    repeat' (first
      | (refine plan_in (id := 7) [0, 1, 2, 3, 4, 5, 6, 7, 8, 9, 10, 11, 12, 13, 14, 15, 16, 17, 18, 19, 20, 21, 22, 23, 24, 25, 26, 27] (by kernel_rfl) (by kernel_rfl) ?_; conv => whnf)
      | (refine plan_in (id := 13) [0, 1, 2, 3, 4, 5, 6, 7, 8, 9, 10, 11, 12, 13, 14, 15, 16, 17, 18, 19, 20, 21, 22, 23, 24] (by kernel_rfl) (by kernel_rfl) ?_; conv => whnf)
      | (refine aIf_t ?_; conv => whnf)
      | (refine aIf_f ?_; conv => whnf)
      | (refine fun (_ : _ ≤ maxLen) => ?_; conv => whnf)
      | (refine callG_t ?_; conv => whnf)
      | (refine append_same ?_; conv => whnf)
      | (refine in_call ?_; conv => whnf)
      | (refine And.intro (And.intro (by kernel_rfl) (And.intro rfl (Nat.le_of_ble_eq_true rfl))) ?_; conv => whnf)
      | refine aIf_eqf ?_
      | refine aIf_not ?_
      | (refine aIf_dec (fun _ => ?_) (fun _ => ?_) <;> conv => whnf))
    all_goals (first | (exfalso; omega) | contradiction | skip)
    refine loop_ut (ι := List T2) [true, true, true, false, false, false, false, false, true, true, false, false, false, false, false, false, false, false, false, false, false, false, false, false, false, false, false, false, false, false, false, false, false, false, false, false, false, false, false, false, false, false, false, false, false, false, false, false, false, false, false, false, false, false, false, false, false, false, false, false, false, false, false, false, false, false, false, false, false, false, false, false, false, false, false, false, false, false, false, false, false, false, false, false, false, false, false, false, false, false, false, false, false, false, false, false, false, false, false, false, false, false, false, false, false, false, false, false, false, false, false] (fun vs => [(8, .ref 1 3 0 vs.length), (9, .int .i64 vs.length)]) (fun vs => [(1, vs.flatMap (tnO 3))]) (fun vs => vs.length ≤ ts.length ∧ sgTo ts us n vs.length = some vs) (fun vs => ts.length - vs.length) ([]) ⟨Nat.zero_le _, rfl⟩ ?_ ?_
    · conv => whnf
      refine St.le.to ?_
      conv => whnf
      repeat' (first
        | exact trivial
        | exact rfl
        | exact Or.inl (And.intro rfl rfl)
        | exact pureL_tn _ _
        | refine And.intro ?_ ?_
        | exact Nat.le_of_ble_eq_true rfl)
    · rintro vs ⟨hvl, hva⟩
      have hvl : vs.length ≤ ts.length := hvl
      have hfl : (vs.flatMap (tnO 3)).length = vs.length * 2 := flat_len (tnO_length _) vs
      by_cases hlt : vs.length < ts.length
      · cases h1 : tensorOk (ts.getD vs.length ([], [])).1 (ts.getD vs.length ([], [])).2 with
        | false =>
          have hN : ¬ sfC (ts.getD vs.length ([], [])).1 (ts.getD vs.length ([], [])).2 (us.getD vs.length ([], [])).1 (us.getD vs.length ([], [])).2 := fun h => by have := h.1; rw [h1] at this; cases this
          have hM := sgM_n (sgTo_none (sgTo_f hva (show (sg1 ts us n vs.length).2.2 = false by unfold sg1; rw [sfM_f hN]; rfl)) _ (show vs.length + 1 ≤ ts.length by omega))
          conv => whnf
          repeat' (first
            | (refine plan_in (id := 7) [0, 1, 2, 3, 4, 5, 6, 7, 8, 9, 10, 11, 12, 13, 14, 15, 16, 17, 18, 19, 20, 21, 22, 23, 24, 25, 26, 27] (by kernel_rfl) (by kernel_rfl) ?_; conv => whnf)
            | (refine plan_in (id := 13) [0, 1, 2, 3, 4, 5, 6, 7, 8, 9, 10, 11, 12, 13, 14, 15, 16, 17, 18, 19, 20, 21, 22, 23, 24] (by kernel_rfl) (by kernel_rfl) ?_; conv => whnf)
            | (refine aIf_t ?_; conv => whnf)
            | (refine aIf_f ?_; conv => whnf)
            | (refine fun (_ : _ ≤ maxLen) => ?_; conv => whnf)
            | (refine And.intro (by omega) ?_; conv => whnf)
            | (refine sTensorOk_call ?_; conv => whnf)
            | (refine append_same ?_; conv => whnf)
            | (refine part_tn_n (by omega) ?_; conv => whnf)
            | (refine And.intro (pureL_ints _ _) ?_; conv => whnf)
            | (refine aIf_ff (by assumption) ?_; conv => whnf)
            | refine aIf_eqf ?_
            | refine aIf_not ?_
            | (refine aIf_dec (fun _ => ?_) (fun _ => ?_) <;> conv => whnf))
          all_goals (first | (exfalso; omega) | contradiction | skip)
          all_goals exact retVs hM rfl rfl rfl
        | true =>
          cases h2 : tensorOk (us.getD vs.length ([], [])).1 (us.getD vs.length ([], [])).2 with
          | false =>
            have hN : ¬ sfC (ts.getD vs.length ([], [])).1 (ts.getD vs.length ([], [])).2 (us.getD vs.length ([], [])).1 (us.getD vs.length ([], [])).2 := fun h => by have := h.2.1; rw [h2] at this; cases this
            have hM := sgM_n (sgTo_none (sgTo_f hva (show (sg1 ts us n vs.length).2.2 = false by unfold sg1; rw [sfM_f hN]; rfl)) _ (show vs.length + 1 ≤ ts.length by omega))
            conv => whnf
            repeat' (first
              | (refine plan_in (id := 7) [0, 1, 2, 3, 4, 5, 6, 7, 8, 9, 10, 11, 12, 13, 14, 15, 16, 17, 18, 19, 20, 21, 22, 23, 24, 25, 26, 27] (by kernel_rfl) (by kernel_rfl) ?_; conv => whnf)
              | (refine plan_in (id := 13) [0, 1, 2, 3, 4, 5, 6, 7, 8, 9, 10, 11, 12, 13, 14, 15, 16, 17, 18, 19, 20, 21, 22, 23, 24] (by kernel_rfl) (by kernel_rfl) ?_; conv => whnf)
              | (refine aIf_t ?_; conv => whnf)
              | (refine aIf_f ?_; conv => whnf)
              | (refine fun (_ : _ ≤ maxLen) => ?_; conv => whnf)
              | (refine And.intro (by omega) ?_; conv => whnf)
              | (refine sTensorOk_call ?_; conv => whnf)
              | (refine append_same ?_; conv => whnf)
              | (refine part_tn_n (by omega) ?_; conv => whnf)
              | (refine And.intro (pureL_ints _ _) ?_; conv => whnf)
              | (refine aIf_tt (by assumption) ?_; conv => whnf)
              | (refine aIf_ff (by assumption) ?_; conv => whnf)
              | refine aIf_eqf ?_
              | refine aIf_not ?_
              | (refine aIf_dec (fun _ => ?_) (fun _ => ?_) <;> conv => whnf))
            all_goals (first | (exfalso; omega) | contradiction | skip)
            all_goals exact retVs hM rfl rfl rfl
          | true =>
            by_cases h3 : (ts.getD vs.length ([], [])).1 = (us.getD vs.length ([], [])).1
            · have hx := tensor_len h1
              have hl := dtC_len h1 h2 h3
              have hF : sg1 ts us n vs.length = told (ts.getD vs.length ([], [])).1 (sfL (ts.getD vs.length ([], [])).2 (us.getD vs.length ([], [])).2 n) := sfM_t ⟨h1, h2, h3⟩
              conv => whnf
              repeat' (first
                | (refine plan_in (id := 7) [0, 1, 2, 3, 4, 5, 6, 7, 8, 9, 10, 11, 12, 13, 14, 15, 16, 17, 18, 19, 20, 21, 22, 23, 24, 25, 26, 27] (by kernel_rfl) (by kernel_rfl) ?_; conv => whnf)
                | (refine plan_in (id := 13) [0, 1, 2, 3, 4, 5, 6, 7, 8, 9, 10, 11, 12, 13, 14, 15, 16, 17, 18, 19, 20, 21, 22, 23, 24] (by kernel_rfl) (by kernel_rfl) ?_; conv => whnf)
                | (refine aIf_t ?_; conv => whnf)
                | (refine aIf_f ?_; conv => whnf)
                | (refine fun (_ : _ ≤ maxLen) => ?_; conv => whnf)
                | (refine And.intro (by omega) ?_; conv => whnf)
                | (refine And.intro (Nat.le_of_ble_eq_true rfl) ?_; conv => whnf)
                | (refine callG_t ?_; conv => whnf)
                | (refine l2Nums_call (by omega) ?_; conv => whnf)
                | (refine sTensorOk_call ?_; conv => whnf)
                | (refine append_same ?_; conv => whnf)
                | (refine get_tn_n (by omega) rfl ?_; conv => whnf)
                | (refine part_tn_n (by omega) ?_; conv => whnf)
                | (refine And.intro (pureL_ints _ _) ?_; conv => whnf)
                | (refine l1Same_call ?_; conv => whnf)
                | (refine set_force ?_; conv => whnf)
                | (refine And.intro (by kernel_rfl) ?_; conv => whnf)
                | (refine aIf_tt (by assumption) ?_; conv => whnf)
                | refine aIf_eqf ?_
                | refine aIf_not ?_
                | (refine aIf_dec (fun _ => ?_) (fun _ => ?_) <;> conv => whnf))
              all_goals (first | (exfalso; omega) | contradiction | skip)
              refine loop_u (ι := Nat × List Int) [true, true, true, false, false, false, false, false, true, true, true, true, false, false, false, false, false, false, false, false, false, false, false, false, false, false, false, false, false, false, false, false, false, false, false, false, false, false, false, false, false, false, false, false, false, false, false, false, false, false, false, false, false, false, false, false, false, false, false, false, false, false, false, false, false, false, false, false, false, false, false, false, false, false, false, false, false, false, false, false, false, false, false, false, false, false, false, false, false, false, false, false, false, false, false, false, false, false, false, false, false, false, false, false, false, false, false, false, false, false, false] (fun | (k, _) => [(11, .int .i64 k)]) (fun | (_, ws) => [(3, ws.map (.int .i64)), (6, [.ref 2 7 0 (ts.getD vs.length ([], [])).1.length, .ref 3 8 0 ws.length])]) (fun x => x.1 ≤ (ts.getD vs.length ([], [])).2.length ∧ x.2.length = x.1 ∧ ∀ j, j < x.1 → x.2.getD j 0 = (sfL (ts.getD vs.length ([], [])).2 (us.getD vs.length ([], [])).2 n).getD j 0) (fun x => (ts.getD vs.length ([], [])).2.length - x.1) ((0, [])) ⟨Nat.zero_le _, rfl, fun j hj => absurd hj (Nat.not_lt_zero _)⟩ ?_ ?_
              · conv => whnf
                repeat' (first
                  | exact trivial
                  | exact rfl
                  | exact Or.inl (And.intro rfl rfl)
                  | exact le_ints rfl
                  | exact pureL_tn _ _
                  | exact Or.inl (And.intro (pureL_otn _ _) rfl)
                  | refine Or.inr ?_
                  | refine And.intro ?_ ?_
                  | exact Nat.le_of_ble_eq_true rfl)
              · rintro ⟨k, ws⟩ ⟨hk, hwl, hall⟩
                have hk : k ≤ (ts.getD vs.length ([], [])).2.length := hk
                have hwl : ws.length = k := hwl
                have hall : ∀ j, j < k → ws.getD j 0 = (sfL (ts.getD vs.length ([], [])).2 (us.getD vs.length ([], [])).2 n).getD j 0 := hall
                by_cases hk2 : k < (ts.getD vs.length ([], [])).2.length
                · have hg := sfL_getD (ws := (us.getD vs.length ([], [])).2) (n := n) hk2
                  conv => whnf
                  repeat' (first
                    | (refine plan_in (id := 7) [0, 1, 2, 3, 4, 5, 6, 7, 8, 9, 10, 11, 12, 13, 14, 15, 16, 17, 18, 19, 20, 21, 22, 23, 24, 25, 26, 27] (by kernel_rfl) (by kernel_rfl) ?_; conv => whnf)
                    | (refine plan_in (id := 13) [0, 1, 2, 3, 4, 5, 6, 7, 8, 9, 10, 11, 12, 13, 14, 15, 16, 17, 18, 19, 20, 21, 22, 23, 24] (by kernel_rfl) (by kernel_rfl) ?_; conv => whnf)
                    | (refine fun (_ : _ ≤ maxLen) => ?_; conv => whnf)
                    | (refine get_nat (by omega) ?_; conv => whnf)
                    | (refine aGet_in rfl ?_; conv => whnf)
                    | (refine And.intro (by omega) ?_; conv => whnf)
                    | (refine load_same ?_; conv => whnf)
                    | (refine And.intro (Nat.le_of_ble_eq_true rfl) ?_; conv => whnf)
                    | (refine callG_t ?_; conv => whnf)
                    | (refine sTensorOk_call ?_; conv => whnf)
                    | (refine append_same ?_; conv => whnf)
                    | (refine get_tn_n (by omega) rfl ?_; conv => whnf)
                    | (refine takeN_in ?_; conv => whnf)
                    | (refine cut_ints ?_; conv => whnf)
                    | (refine append_int rfl rfl (by first | rfl | (simp only [List.length_take, turned_length]; omega)) (by omega) (Nat.le_of_ble_eq_true rfl) ?_; conv => whnf)
                    | (refine set_force ?_; conv => whnf)
                    | (refine And.intro (And.intro (by kernel_rfl) (And.intro rfl (Nat.le_of_ble_eq_true rfl))) ?_; conv => whnf)
                    | (refine And.intro (by kernel_rfl) ?_; conv => whnf)
                    | refine aIf_not ?_
                    | (refine aIf_dec (fun _ => ?_) (fun _ => ?_) <;> conv => whnf)
                    | (refine aIf_in (fun _ => ?_) (fun _ => ?_) <;> conv => whnf))
                  all_goals (first | (exfalso; omega) | skip)
                  all_goals
                    refine next_u (k + 1, ws ++ [(sfL (ts.getD vs.length ([], [])).2 (us.getD vs.length ([], [])).2 n).getD k 0]) (show (ts.getD vs.length ([], [])).2.length - (k + 1) < (ts.getD vs.length ([], [])).2.length - k by omega) ⟨(show k + 1 ≤ (ts.getD vs.length ([], [])).2.length by omega), by simp [hwl], fun j hj => ?_⟩ ?_
                    · have hj : j < k + 1 := hj
                      show (ws ++ [(sfL (ts.getD vs.length ([], [])).2 (us.getD vs.length ([], [])).2 n).getD k 0]).getD j 0 = _
                      rw [getD_snoc hwl hj]
                      split
                      · rename_i e'; rw [e']
                      · exact hall j (by omega)
                    · rw [hg]
                      conv => whnf
                      repeat' (first
                        | exact trivial
                        | exact rfl
                        | exact Or.inl (And.intro rfl rfl)
                        | exact le_ints rfl
                        | exact pureL_tn _ _
                        | exact Or.inl (And.intro (pureL_otn _ _) rfl)
                        | refine Or.inr ?_
                        | refine And.intro ?_ ?_
                        | exact Nat.le_of_ble_eq_true rfl
                        | exact List.length_append
                        | exact int_eq (by rw [IntWalk.i64_in _ (by omega)] <;> omega))
                · have hws : ws = sfL (ts.getD vs.length ([], [])).2 (us.getD vs.length ([], [])).2 n := getD_ext (by rw [sfL_length]; omega) fun j hj => by
                    rw [sfL_length] at hj
                    exact hall j (by omega)
                  cases hb : tensorOk (ts.getD vs.length ([], [])).1 ws with
                  | false =>
                    have hM := sgM_n (sgTo_none (sgTo_f hva (show (sg1 ts us n vs.length).2.2 = false by rw [hF, ← hws, told_f hb]; rfl)) _ (show vs.length + 1 ≤ ts.length by omega))
                    conv => whnf
                    repeat' (first
                      | (refine plan_in (id := 7) [0, 1, 2, 3, 4, 5, 6, 7, 8, 9, 10, 11, 12, 13, 14, 15, 16, 17, 18, 19, 20, 21, 22, 23, 24, 25, 26, 27] (by kernel_rfl) (by kernel_rfl) ?_; conv => whnf)
                      | (refine plan_in (id := 13) [0, 1, 2, 3, 4, 5, 6, 7, 8, 9, 10, 11, 12, 13, 14, 15, 16, 17, 18, 19, 20, 21, 22, 23, 24] (by kernel_rfl) (by kernel_rfl) ?_; conv => whnf)
                      | (refine fun (_ : _ ≤ maxLen) => ?_; conv => whnf)
                      | (refine get_nat (by omega) ?_; conv => whnf)
                      | (refine aGet_in rfl ?_; conv => whnf)
                      | (refine And.intro (by omega) ?_; conv => whnf)
                      | (refine load_same ?_; conv => whnf)
                      | (refine And.intro (Nat.le_of_ble_eq_true rfl) ?_; conv => whnf)
                      | (refine callG_t ?_; conv => whnf)
                      | (refine sTensorOk_call ?_; conv => whnf)
                      | (refine append_same ?_; conv => whnf)
                      | (refine get_tn_n (by omega) rfl ?_; conv => whnf)
                      | (refine takeN_in ?_; conv => whnf)
                      | (refine cut_ints ?_; conv => whnf)
                      | (refine append_int rfl rfl (by first | rfl | (simp only [List.length_take, turned_length]; omega)) (by omega) (Nat.le_of_ble_eq_true rfl) ?_; conv => whnf)
                      | (refine set_force ?_; conv => whnf)
                      | (refine And.intro (by kernel_rfl) ?_; conv => whnf)
                      | (refine aIf_ff (by assumption) ?_; conv => whnf)
                      | refine aIf_not ?_
                      | (refine aIf_dec (fun _ => ?_) (fun _ => ?_) <;> conv => whnf))
                    all_goals (first | (exfalso; omega) | contradiction | skip)
                    all_goals exact retVs hM rfl rfl rfl
                  | true =>
                    have hG : sg1 ts us n vs.length = ((ts.getD vs.length ([], [])).1, ws, true) := by rw [hF, ← hws, told_t hb]
                    have hn' : sgTo ts us n (vs.length + 1) = some (vs ++ [((ts.getD vs.length ([], [])).1, ws)]) := by
                      have := sgTo_t hva (show (sg1 ts us n vs.length).2.2 = true by rw [hG])
                      rw [hG] at this; exact this
                    have hlen : (vs ++ [((ts.getD vs.length ([], [])).1, ws)]).length = vs.length + 1 := by simp
                    conv => whnf
                    repeat' (first
                      | (refine plan_in (id := 7) [0, 1, 2, 3, 4, 5, 6, 7, 8, 9, 10, 11, 12, 13, 14, 15, 16, 17, 18, 19, 20, 21, 22, 23, 24, 25, 26, 27] (by kernel_rfl) (by kernel_rfl) ?_; conv => whnf)
                      | (refine plan_in (id := 13) [0, 1, 2, 3, 4, 5, 6, 7, 8, 9, 10, 11, 12, 13, 14, 15, 16, 17, 18, 19, 20, 21, 22, 23, 24] (by kernel_rfl) (by kernel_rfl) ?_; conv => whnf)
                      | (refine fun (_ : _ ≤ maxLen) => ?_; conv => whnf)
                      | (refine get_nat (by omega) ?_; conv => whnf)
                      | (refine aGet_in rfl ?_; conv => whnf)
                      | (refine And.intro (by omega) ?_; conv => whnf)
                      | (refine load_same ?_; conv => whnf)
                      | (refine And.intro (Nat.le_of_ble_eq_true rfl) ?_; conv => whnf)
                      | (refine callG_t ?_; conv => whnf)
                      | (refine sTensorOk_call ?_; conv => whnf)
                      | (refine append_same ?_; conv => whnf)
                      | (refine get_tn_n (by omega) rfl ?_; conv => whnf)
                      | (refine takeN_in ?_; conv => whnf)
                      | (refine cut_ints ?_; conv => whnf)
                      | (refine append_int rfl rfl (by first | rfl | (simp only [List.length_take, turned_length]; omega)) (by omega) (Nat.le_of_ble_eq_true rfl) ?_; conv => whnf)
                      | (refine set_force ?_; conv => whnf)
                      | (refine And.intro (And.intro (by kernel_rfl) (And.intro rfl (Nat.le_of_ble_eq_true rfl))) ?_; conv => whnf)
                      | (refine And.intro (by kernel_rfl) ?_; conv => whnf)
                      | (refine aIf_tt (by assumption) ?_; conv => whnf)
                      | refine aIf_not ?_
                      | (refine aIf_dec (fun _ => ?_) (fun _ => ?_) <;> conv => whnf))
                    all_goals (first | (exfalso; omega) | contradiction | skip)
                    refine append_tl rfl hfl rfl rfl rfl (by omega) (Nat.zero_le _) ?_
                    conv => whnf
                    repeat' (first
                      | (refine plan_in (id := 7) [0, 1, 2, 3, 4, 5, 6, 7, 8, 9, 10, 11, 12, 13, 14, 15, 16, 17, 18, 19, 20, 21, 22, 23, 24, 25, 26, 27] (by kernel_rfl) (by kernel_rfl) ?_; conv => whnf)
                      | (refine plan_in (id := 13) [0, 1, 2, 3, 4, 5, 6, 7, 8, 9, 10, 11, 12, 13, 14, 15, 16, 17, 18, 19, 20, 21, 22, 23, 24] (by kernel_rfl) (by kernel_rfl) ?_; conv => whnf)
                      | (refine append_same ?_; conv => whnf))
                    refine next_ut (vs ++ [((ts.getD vs.length ([], [])).1, ws)]) (show ts.length - (vs ++ [((ts.getD vs.length ([], [])).1, ws)]).length < ts.length - vs.length by omega) ⟨(by omega : (vs ++ [((ts.getD vs.length ([], [])).1, ws)]).length ≤ ts.length), by rw [hlen]; exact hn'⟩ ?_
                    rw [hlen]
                    conv => whnf
                    refine to_close 1 (vs.length * 2 + 0) 2 _ _ 1 3 _ _ rfl (get_b0 hfl) rfl (by decide) (Nat.zero_le _) (by decide) (by simp) ?_
                    refine to_close 1 (vs.length * 2 + 1) 3 _ _ 1 3 _ _ rfl (get_b1 hfl) rfl (by decide) (Nat.zero_le _) (by decide) (by simp) ?_
                    refine St.le.to ?_
                    conv => whnf
                    repeat' (first | exact le_snocU rfl | refine And.intro ?_ ?_)
                    repeat' (first
                      | exact trivial
                      | exact rfl
                      | exact Or.inl (And.intro rfl rfl)
                      | exact pureL_tn _ _
                      | exact Nat.le_of_ble_eq_true rfl
                      | exact int_eq (by rw [IntWalk.i64_in _ (by omega)] <;> omega))
            · have hN : ¬ sfC (ts.getD vs.length ([], [])).1 (ts.getD vs.length ([], [])).2 (us.getD vs.length ([], [])).1 (us.getD vs.length ([], [])).2 := fun h => h3 h.2.2
              have hM := sgM_n (sgTo_none (sgTo_f hva (show (sg1 ts us n vs.length).2.2 = false by unfold sg1; rw [sfM_f hN]; rfl)) _ (show vs.length + 1 ≤ ts.length by omega))
              conv => whnf
              repeat' (first
                | (refine plan_in (id := 7) [0, 1, 2, 3, 4, 5, 6, 7, 8, 9, 10, 11, 12, 13, 14, 15, 16, 17, 18, 19, 20, 21, 22, 23, 24, 25, 26, 27] (by kernel_rfl) (by kernel_rfl) ?_; conv => whnf)
                | (refine plan_in (id := 13) [0, 1, 2, 3, 4, 5, 6, 7, 8, 9, 10, 11, 12, 13, 14, 15, 16, 17, 18, 19, 20, 21, 22, 23, 24] (by kernel_rfl) (by kernel_rfl) ?_; conv => whnf)
                | (refine aIf_t ?_; conv => whnf)
                | (refine aIf_f ?_; conv => whnf)
                | (refine fun (_ : _ ≤ maxLen) => ?_; conv => whnf)
                | (refine And.intro (by omega) ?_; conv => whnf)
                | (refine callG_t ?_; conv => whnf)
                | (refine sTensorOk_call ?_; conv => whnf)
                | (refine append_same ?_; conv => whnf)
                | (refine get_tn_n (by omega) rfl ?_; conv => whnf)
                | (refine part_tn_n (by omega) ?_; conv => whnf)
                | (refine And.intro (pureL_ints _ _) ?_; conv => whnf)
                | (refine l1Same_call ?_; conv => whnf)
                | (refine aIf_tt (by assumption) ?_; conv => whnf)
                | refine aIf_eqf ?_
                | refine aIf_not ?_
                | (refine aIf_dec (fun _ => ?_) (fun _ => ?_) <;> conv => whnf))
              all_goals (first | (exfalso; omega) | contradiction | skip)
              all_goals exact retVs hM rfl rfl rfl
      · have he : vs.length = ts.length := by omega
        conv => whnf
        repeat' (first
          | (refine plan_in (id := 7) [0, 1, 2, 3, 4, 5, 6, 7, 8, 9, 10, 11, 12, 13, 14, 15, 16, 17, 18, 19, 20, 21, 22, 23, 24, 25, 26, 27] (by kernel_rfl) (by kernel_rfl) ?_; conv => whnf)
          | (refine plan_in (id := 13) [0, 1, 2, 3, 4, 5, 6, 7, 8, 9, 10, 11, 12, 13, 14, 15, 16, 17, 18, 19, 20, 21, 22, 23, 24] (by kernel_rfl) (by kernel_rfl) ?_; conv => whnf)
          | (refine aIf_t ?_; conv => whnf)
          | (refine aIf_f ?_; conv => whnf)
          | (refine fun (_ : _ ≤ maxLen) => ?_; conv => whnf)
          | (refine And.intro (by omega) ?_; conv => whnf)
          | (refine callG_t ?_; conv => whnf)
          | (refine l2Nums_call (by omega) ?_; conv => whnf)
          | (refine sTensorOk_call ?_; conv => whnf)
          | (refine append_same ?_; conv => whnf)
          | (refine get_tn_n (by omega) rfl ?_; conv => whnf)
          | (refine part_tn_n (by omega) ?_; conv => whnf)
          | (refine l1Same_call ?_; conv => whnf)
          | (refine set_force ?_; conv => whnf)
          | refine aIf_eqf ?_
          | refine aIf_not ?_
          | (refine aIf_dec (fun _ => ?_) (fun _ => ?_) <;> conv => whnf)
          | (refine aIf_in (fun _ => ?_) (fun _ => ?_) <;> conv => whnf))
        all_goals (first | (exfalso; omega) | skip)
        exact retVs (sgM_t hC (by rw [← he]; exact hva)) rfl rfl rfl
  · have hM := sgM_f hC
    have hC' : ¬ (ts.length ≤ 3 ∧ us.length = ts.length ∧ -9 ≤ n ∧ n ≤ 9) := hC
    conv => whnf
    repeat' (first
      | (refine plan_in (id := 7) [0, 1, 2, 3, 4, 5, 6, 7, 8, 9, 10, 11, 12, 13, 14, 15, 16, 17, 18, 19, 20, 21, 22, 23, 24, 25, 26, 27] (by kernel_rfl) (by kernel_rfl) ?_; conv => whnf)
      | (refine plan_in (id := 13) [0, 1, 2, 3, 4, 5, 6, 7, 8, 9, 10, 11, 12, 13, 14, 15, 16, 17, 18, 19, 20, 21, 22, 23, 24] (by kernel_rfl) (by kernel_rfl) ?_; conv => whnf)
      | (refine aIf_t ?_; conv => whnf)
      | (refine aIf_f ?_; conv => whnf)
      | (refine fun (_ : _ ≤ maxLen) => ?_; conv => whnf)
      | (refine And.intro (by omega) ?_; conv => whnf)
      | (refine callG_t ?_; conv => whnf)
      | (refine append_same ?_; conv => whnf)
      | (refine in_call ?_; conv => whnf)
      | refine aIf_eqf ?_
      | refine aIf_not ?_
      | (refine aIf_dec (fun _ => ?_) (fun _ => ?_) <;> conv => whnf))
    all_goals (first | (exfalso; omega) | contradiction | exact retVs hM rfl rfl rfl)
theorem iShiftOf_call {c d : Nat} {ts us : List T2} {n : Int} {env : List AV} {rows : List Row} {ctr low : Nat} {k : AV → St → Prop} (hpre : ts.length ≤ 1048576 ∧ us.length ≤ 1048576 ∧ (Lit.int .i64 n).wf = true)
    (h : k (.tup [.ref rows.length ctr 0 (sgM ts us n).1.length, .bool (sgM ts us n).2]) ⟨env, rows ++ [⟨ctr, 40, 2, (sgM ts us n).1.flatMap (tnO 3)⟩], ctr + 1, low⟩) :
    CallB Try.prog 31 ⟨env, rows, ctr, low⟩ [.sl c ts.length (ts.flatMap (tnC c)), .sl d us.length (us.flatMap (tnC d)), .int .i64 n] k := callRB_in iShiftOf_sound (c, ts, d, us, n) hpre (protL_otn _ _) h
theorem sShiftOf_call {c d : Nat} {ts us : List T2} {n : Int} {env : List AV} {rows : List Row} {ctr low : Nat} {k : AV → St → Prop} (hpre : ts.length ≤ 1048576 ∧ us.length ≤ 1048576 ∧ (Lit.int .i64 n).wf = true)
    (h : k (.tup [.ref rows.length ctr 0 (sgM ts us n).1.length, .bool (sgM ts us n).2]) ⟨env, rows ++ [⟨ctr, 40, 2, (sgM ts us n).1.flatMap (tnO 3)⟩], ctr + 1, low⟩) :
    CallB Try.prog 29 ⟨env, rows, ctr, low⟩ [.sl c ts.length (ts.flatMap (tnC c)), .sl d us.length (us.flatMap (tnC d)), .int .i64 n] k := callRB_in sShiftOf_sound (c, ts, d, us, n) hpre (protL_otn _ _) h
theorem ttot_le67' : ∀ (ts : List T2), allT ts → ttot ts ≤ 67 * ts.length
  | [], _ => by simp [ttot]
  | t :: ts, h => by
    have h1 := ttot_le67' ts fun j hj => h (j + 1) (by simpa using hj)
    have h2 := allT_len h (show 0 < (t :: ts).length by simp)
    have e : ttot (t :: ts) = t.1.length + t.2.length + ttot ts := by simp [ttot]
    have h2 : t.1.length ≤ 3 ∧ t.2.length ≤ 64 := h2
    rw [e, List.length_cons]; omega
end Go.Proofs.Ytjmdhfjemaoebaa

/- Chapter 3: lists of lists that hold marks. -/
namespace Go.Proofs.Ytjmdhfjemaoebaa
set_option maxRecDepth 20000
open Go.RowKit Go.Am
set_option linter.unusedSimpArgs false
attribute [local irreducible] aPlan aGet aIf aLoop aCall RetB NextB CallB CallG aCut aSet aAppend
theorem cut_marksII {f : Nat} {t : TypeId} {xss : List (List Int)} {m : Int} {n : Nat} {k : List AV → Prop} (hn : n = xss.length) (hk : k ((marksII m xss).map (slI 0))) : aCut (f + 2) ((marksII m xss).map (ownI t)) 0 (n * 1) k := cut_ii (by rw [hn, marksII_length]) hk
end Go.Proofs.Ytjmdhfjemaoebaa

/- Chapter 3: lists of tensors that the laws mark. -/
namespace Go.Proofs.Ytjmdhfjemaoebaa
set_option maxRecDepth 20000
open Go.RowKit Go.Am
set_option linter.unusedSimpArgs false
theorem flat_split {α : Type} {f : α → List AV} {z : Nat} (hz : ∀ x, (f x).length = z) (d : α) {l : List α} {k : Nat} (hk : k < l.length) : ∃ A B : List AV, A.length = k * z ∧ l.flatMap f = A ++ (f (l.getD k d) ++ B) ∧ ∀ y, (l.set k y).flatMap f = A ++ (f y ++ B) := by
  refine ⟨(l.take k).flatMap f, (l.drop (k + 1)).flatMap f, by rw [flat_len hz, List.length_take, Nat.min_eq_left (Nat.le_of_lt hk)], ?_, fun y => ?_⟩
  · conv => lhs; rw [← List.take_append_drop k l, List.drop_eq_getElem_cons hk]
    rw [List.flatMap_append, List.flatMap_cons]
    simp [List.getD, List.getElem?_eq_getElem hk]
  · rw [List.set_eq_take_append_cons_drop, if_pos hk, List.flatMap_append, List.flatMap_cons]
theorem get_otn_2 {t : TypeId} {k : Nat} {ns : List T2} {r : AV} {K : AV → Prop} (h : k < ns.length) (hK : K (ownI t (ns.getD k ([], [])).2)) : aGet (((ns.flatMap (tnO t)).set (0 + (k : Int).toNat * 2 + 0) r).drop (0 + (k : Int).toNat * 2 + 1)) 0 K := by
  obtain ⟨A, B, hA, e, -⟩ := flat_split (tnO_length t) ([], []) h
  refine ⟨_, ?_, hK⟩
  rw [e, List.getElem?_drop, Nat.add_zero, set_mid (i := 0) (by rw [hA]; simp) (by simp [tnO])]
  exact get_mid (i := 1) (by rw [hA]; simp) rfl
theorem get_c0 {t : TypeId} {k : Nat} {ns : List T2} {r s : AV} (h : k < ns.length) : (((ns.flatMap (tnO t)).set (0 + (k : Int).toNat * 2 + 0) r).set (0 + (k : Int).toNat * 2 + 1) s)[0 + (k : Int).toNat * 2 + 0]? = some r := by
  obtain ⟨A, B, hA, e, -⟩ := flat_split (tnO_length t) ([], []) h
  rw [e, set_mid (i := 0) (by rw [hA]; simp) (by simp [tnO]), set_mid (i := 1) (by rw [hA]; simp) (by simp [tnO])]
  exact get_mid (i := 0) (by rw [hA]; simp) rfl
theorem get_c1 {t : TypeId} {k : Nat} {ns : List T2} {r s x : AV} (h : k < ns.length) : ((((ns.flatMap (tnO t)).set (0 + (k : Int).toNat * 2 + 0) r).set (0 + (k : Int).toNat * 2 + 1) s).set (0 + (k : Int).toNat * 2 + 0) x)[0 + (k : Int).toNat * 2 + 1]? = some s := by
  obtain ⟨A, B, hA, e, -⟩ := flat_split (tnO_length t) ([], []) h
  rw [e, set_mid (i := 0) (by rw [hA]; simp) (by simp [tnO]), set_mid (i := 1) (by rw [hA]; simp) (by simp [tnO]), set_mid (i := 0) (by rw [hA]; simp) (by simp [tnO])]
  exact get_mid (i := 1) (by rw [hA]; simp) rfl
theorem le_setT {t : TypeId} {k : Nat} {ns : List T2} {r s x y : AV} {xs ys : List Int} {p : Prop} (h : k < ns.length) (hx : x = ownI t xs) (hy : y = ownI t ys) :
    (pureL (((((ns.flatMap (tnO t)).set (0 + (k : Int).toNat * 2 + 0) r).set (0 + (k : Int).toNat * 2 + 1) s).set (0 + (k : Int).toNat * 2 + 0) x).set (0 + (k : Int).toNat * 2 + 1) y) = true ∧ (ns.set k (xs, ys)).flatMap (tnO t) = ((((ns.flatMap (tnO t)).set (0 + (k : Int).toNat * 2 + 0) r).set (0 + (k : Int).toNat * 2 + 1) s).set (0 + (k : Int).toNat * 2 + 0) x).set (0 + (k : Int).toNat * 2 + 1) y) ∨ p := by
  refine le_cells ?_ (pureL_flat (tnO_pure t) _)
  obtain ⟨A, B, hA, e, e'⟩ := flat_split (tnO_length t) ([], []) h
  rw [e, e', set_mid (i := 0) (by rw [hA]; simp) (by simp [tnO]), set_mid (i := 1) (by rw [hA]; simp) (by simp [tnO]), set_mid (i := 0) (by rw [hA]; simp) (by simp [tnO]), set_mid (i := 1) (by rw [hA]; simp) (by simp [tnO]), hx, hy]
  rfl
attribute [local irreducible] aPlan aGet aIf aLoop aCall RetB NextB CallB CallG aCut aSet aAppend
/-- Tensors that hold marks, one behind the other. -/
def marksTT (m : Int) : List T2 → List T2
  | [] => []
  | t :: ts => (marks m t.1.length, marks (m + t.1.length) t.2.length) :: marksTT (m + t.1.length + t.2.length) ts
theorem marksTT_length : ∀ (m : Int) (ts : List T2), (marksTT m ts).length = ts.length
  | _, [] => rfl
  | m, t :: ts => by simp [marksTT, marksTT_length]
theorem marksTT_getD : ∀ (m : Int) (ts : List T2) (k : Nat), k < ts.length → (marksTT m ts).getD k ([], []) = (marks (m + ttot (ts.take k)) (ts.getD k ([], [])).1.length, marks (m + ttot (ts.take k) + (ts.getD k ([], [])).1.length) (ts.getD k ([], [])).2.length)
  | m, t :: ts, 0, _ => by simp [marksTT, ttot]
  | m, t :: ts, k + 1, h => by
    have h' : k < ts.length := by simpa using h
    have := marksTT_getD (m + t.1.length + t.2.length) ts k h'
    have e : ttot (t :: ts.take k) = t.1.length + t.2.length + ttot (ts.take k) := by simp [ttot]
    show (marksTT (m + t.1.length + t.2.length) ts).getD k ([], []) = (marks (m + ttot (t :: ts.take k)) (ts.getD k ([], [])).1.length, marks (m + ttot (t :: ts.take k) + (ts.getD k ([], [])).1.length) (ts.getD k ([], [])).2.length)
    rw [this, e]
    have e1 : m + (t.1.length : Int) + t.2.length + ttot (ts.take k) = m + ((t.1.length + t.2.length + ttot (ts.take k) : Nat) : Int) := by omega
    rw [e1]
def sMarkTs : CSpec := fnMR (ι := List T2 × Int) 40 2 (fun x => x.1.length) (fun x => x.1.flatMap (tnO 3)) (fun x => x.2) (fun x => x.1.length ≤ 1048576 ∧ ttot x.1 ≤ 1048576 ∧ 0 ≤ x.2 ∧ x.2 ≤ 100000000000) (fun x => x.2 + ttot x.1) (fun x => (marksTT x.2 x.1).flatMap (tnO 3))
set_option maxHeartbeats 4000000 in
theorem markTs_sound : Sound Try.prog 33 sMarkTs := by
  refine sound_of Try.func33 rfl (enters_of Try.func33 (by kernel_rfl) (by kernel_rfl)) ?_
  rintro ⟨ts, m⟩ hpre
  have hpre : ts.length ≤ 1048576 ∧ ttot ts ≤ 1048576 ∧ 0 ≤ m ∧ m ≤ 100000000000 := hpre
  have hmax : maxLen = 9223372036854775807 := rfl
  conv => whnf
  dsimp only
  repeat' (first
    | (refine append_same ?_; conv => whnf))
  refine loop_u (ι := Nat × List T2) [true, true, false, false, false, true, false, false, false, false, false, false, false, false, false, false, false, false, false, false, false, false, false, false, false, false, false] (fun | (k, _) => [(1, .int .i64 (m + ttot (ts.take k))), (5, .int .i64 k)]) (fun | (_, L) => [(0, L.flatMap (tnO 3))]) (fun | (k, L) => k ≤ ts.length ∧ L.length = ts.length ∧ (∀ j, j < k → L.getD j ([], []) = (marksTT m ts).getD j ([], [])) ∧ ∀ j, k ≤ j → L.getD j ([], []) = ts.getD j ([], [])) (fun x => ts.length - x.1) ((0, ts)) ⟨Nat.zero_le _, rfl, fun j hj => absurd hj (Nat.not_lt_zero _), fun _ _ => rfl⟩ ?_ ?_
  · conv => whnf
    repeat' (first | exact int_eq (show m = m + ttot (ts.take 0) by simp [ttot]) | exact Or.inl (And.intro (pureL_otn _ _) rfl) | refine And.intro ?_ ?_)
    repeat' (first
      | exact trivial
      | exact rfl
      | exact Nat.le_of_ble_eq_true rfl)
  · rintro ⟨k, L⟩ ⟨hk, hL, h1, h2⟩
    have hk : k ≤ ts.length := hk
    have hL : L.length = ts.length := hL
    have h1 : ∀ j, j < k → L.getD j ([], []) = (marksTT m ts).getD j ([], []) := h1
    have h2 : ∀ j, k ≤ j → L.getD j ([], []) = ts.getD j ([], []) := h2
    have ht' : ttot (ts.take k) ≤ ttot ts := sum_take_le (fun t : T2 => t.1.length + t.2.length) ts k
    by_cases hlt : k < ts.length
    · have e2 := h2 k (Nat.le_refl _)
      have hl1 : (L.getD k ([], [])).1.length = (ts.getD k ([], [])).1.length := by rw [e2]
      have hl2 : (L.getD k ([], [])).2.length = (ts.getD k ([], [])).2.length := by rw [e2]
      have hl := len_le_ttot hlt
      have hs := ttot_succ hlt
      conv => whnf
      repeat' (first
        | (refine fun (_ : _ ≤ maxLen) => ?_; conv => whnf)
        | (refine And.intro (by omega) ?_; conv => whnf)
        | (refine mark_call rfl (by rfl) (by omega) ?_; conv => whnf)
        | (refine append_same ?_; conv => whnf)
        | (refine get_otn_n (by omega) rfl ?_; conv => whnf)
        | (refine get_otn_2 (by omega) ?_; conv => whnf)
        | (refine aIf_dec (fun _ => ?_) (fun _ => ?_) <;> conv => whnf))
      all_goals (first | (exfalso; omega) | skip)
      refine next_ut (k + 1, L.set k (marks (m + ttot (ts.take k)) (L.getD k ([], [])).1.length, marks (m + ttot (ts.take k) + (L.getD k ([], [])).1.length) (L.getD k ([], [])).2.length)) (show ts.length - (k + 1) < ts.length - k by omega) ⟨(by omega : k + 1 ≤ ts.length), (by rw [List.length_set]; exact hL : (L.set k _).length = ts.length), fun j hj => ?_, fun j hj => ?_⟩ ?_
      · have hj : j < k + 1 := hj
        rw [getD_setG (by omega)]
        split
        · rename_i e; rw [← e, marksTT_getD m ts k hlt, hl1, hl2]
        · exact h1 j (by omega)
      · have hj : k + 1 ≤ j := hj
        rw [getD_setG (by omega), if_neg (by omega)]
        exact h2 j (by omega)
      · conv => whnf
        refine to_close 0 (0 + (k : Int).toNat * 2 + 0) 1 1 _ 1 3 _ _ rfl (get_c0 (by omega)) rfl (by decide) (Nat.le_of_ble_eq_true rfl) (by decide) (by simp [marks_length]) ?_
        refine to_close 0 (0 + (k : Int).toNat * 2 + 1) 2 3 _ 1 3 _ _ rfl (get_c1 (by omega)) rfl (by decide) (Nat.le_of_ble_eq_true rfl) (by decide) (by simp [marks_length]) ?_
        refine St.le.to ?_
        conv => whnf
        repeat' (first | exact le_setT (by omega) (own_marks _ _ _) (own_marks _ _ _) | exact int_eq (show m + ttot (ts.take k) + ((L.getD k ([], [])).1.length : Int) + ((L.getD k ([], [])).2.length : Int) = m + ttot (ts.take (k + 1)) by omega) | refine And.intro ?_ ?_)
        repeat' (first
          | exact trivial
          | exact rfl
          | exact Nat.le_of_ble_eq_true rfl
          | exact int_eq (by rw [IntWalk.i64_in _ (by omega)] <;> omega))
    · have e : k = ts.length := by omega
      have et := ttot_all e
      have eL : L = marksTT m ts := getD_extG (d := ([], [])) (by rw [marksTT_length]; exact hL) fun j hj => h1 j (by rw [marksTT_length] at hj; omega)
      conv => whnf
      repeat' (first
        | (refine fun (_ : _ ≤ maxLen) => ?_; conv => whnf)
        | (refine And.intro (by omega) ?_; conv => whnf)
        | (refine mark_call rfl (by rfl) (by omega) ?_; conv => whnf)
        | (refine append_same ?_; conv => whnf)
        | (refine get_otn_n (by omega) rfl ?_; conv => whnf)
        | (refine get_otn_2 (by omega) ?_; conv => whnf)
        | (refine aIf_dec (fun _ => ?_) (fun _ => ?_) <;> conv => whnf))
      all_goals (first | (exfalso; omega) | skip)
      exact retMR (protL_otn _ _) (by rw [et]) (by rw [eL])
theorem markTs_call {ts : List T2} {m : Int} {env : List AV} {rows : List Row} {ctr low τ ver n : Nat} {k : AV → St → Prop} (hr : rows[τ]? = some ⟨ver, 40, 2, ts.flatMap (tnO 3)⟩) (hn : n = ts.length) (hpre : ts.length ≤ 1048576 ∧ ttot ts ≤ 1048576 ∧ 0 ≤ m ∧ m ≤ 100000000000)
    (hk : k (.int .i64 (m + ttot ts)) ⟨env, setRows rows [τ] [(marksTT m ts).flatMap (tnO 3)], ctr + 1, low⟩) : CallG Try.prog 33 ⟨env, rows, ctr, low⟩ [.ref τ ver 0 n, .int .i64 m] k :=
  callMR_in markTs_sound (ts, m) hpre (protL_otn _ _) (protL_otn _ _) hr hn rfl hk
theorem heldTs_sound : Sound Try.prog 34 (fnS (ι := Nat × List T2 × Int) (fun | (c, ts, m) => [.sl c ts.length ((marksTT m ts).flatMap (tnC c)), .int .i64 m]) (fun | (_, ts, m) => ts.length ≤ 1048576 ∧ ttot ts ≤ 1048576 ∧ 0 ≤ m ∧ m ≤ 100000000000) (fun | (_, ts, m) => .int .i64 (m + ttot ts))) := by
  refine sound_of Try.func34 rfl (enters_of Try.func34 (by kernel_rfl) (by kernel_rfl)) ?_
  rintro ⟨c, ts, m⟩ hpre
  have hpre : ts.length ≤ 1048576 ∧ ttot ts ≤ 1048576 ∧ 0 ≤ m ∧ m ≤ 100000000000 := hpre
  have hmax : maxLen = 9223372036854775807 := rfl
  have hML := marksTT_length m ts
  conv => whnf
  repeat' (first
    | (refine append_same ?_; conv => whnf))
  refine loop_u (ι := Nat) [true, true, false, false, false, true, false, false, false, false, false, false, false, false, false, false, false, false, false, false, false, false, false, false, false, false, false, false, false, false, false] (fun k => [(1, .int .i64 (m + ttot (ts.take k))), (5, .int .i64 k)]) (fun _ => []) (fun k => k ≤ ts.length) (fun k => ts.length - k) (0) (Nat.zero_le _) ?_ ?_
  · conv => whnf
    repeat' (first
      | exact trivial
      | exact rfl
      | exact pureL_tn _ _
      | refine And.intro ?_ ?_
      | exact Nat.le_of_ble_eq_true rfl
      | exact int_eq (Int.add_zero _).symm)
    all_goals exact int_eq (by simp [ttot])
  · rintro k hk
    have hk : k ≤ ts.length := hk
    by_cases hlt : k < ts.length
    · have hg := marksTT_getD m ts k hlt
      have hs := ttot_succ hlt
      have hl := len_le_ttot hlt
      have ht : ttot (ts.take (k + 1)) ≤ ttot ts := sum_take_le (fun t : T2 => t.1.length + t.2.length) ts (k + 1)
      have hg1 : ((marksTT m ts).getD k ([], [])).1 = marks (m + ttot (ts.take k)) (ts.getD k ([], [])).1.length := by rw [hg]
      have hg2 : ((marksTT m ts).getD k ([], [])).2 = marks (m + ttot (ts.take k) + (ts.getD k ([], [])).1.length) (ts.getD k ([], [])).2.length := by rw [hg]
      have hgl : ((marksTT m ts).getD k ([], [])).1.length = (ts.getD k ([], [])).1.length := by rw [hg1, marks_length]
      have hgl2 : ((marksTT m ts).getD k ([], [])).2.length = (ts.getD k ([], [])).2.length := by rw [hg2, marks_length]
      conv => whnf
      repeat' (first
        | (refine fun (_ : _ ≤ maxLen) => ?_; conv => whnf)
        | (refine And.intro (by omega) ?_; conv => whnf)
        | (refine callG_t ?_; conv => whnf)
        | (refine append_same ?_; conv => whnf)
        | (refine get_tn_n (by omega) rfl ?_; conv => whnf)
        | (refine And.intro (pureL_ints _ _) ?_; conv => whnf)
        | (refine aIf_dec (fun _ => ?_) (fun _ => ?_) <;> conv => whnf))
      all_goals (first | (exfalso; omega) | skip)
      refine held_call (m := m + ttot (ts.take k)) (by omega) ?_
      rw [if_pos (by rw [hgl]; exact hg1), hgl]
      conv => whnf
      repeat' (first
        | (refine And.intro (by omega) ?_; conv => whnf)
        | (refine callG_t ?_; conv => whnf)
        | (refine append_same ?_; conv => whnf)
        | (refine get_tn_n (by omega) rfl ?_; conv => whnf)
        | (refine And.intro (pureL_ints _ _) ?_; conv => whnf)
        | (refine aIf_dec (fun _ => ?_) (fun _ => ?_) <;> conv => whnf))
      all_goals (first | (exfalso; omega) | skip)
      refine held_call (m := m + ttot (ts.take k) + (ts.getD k ([], [])).1.length) (by omega) ?_
      rw [if_pos (by rw [hgl2]; exact hg2), hgl2]
      conv => whnf
      repeat' (first
        | (refine append_same ?_; conv => whnf)
        | (refine aIf_dec (fun _ => ?_) (fun _ => ?_) <;> conv => whnf))
      all_goals (first | (exfalso; omega) | skip)
      refine next_u (k + 1) (show ts.length - (k + 1) < ts.length - k by omega) (by exact (by omega : k + 1 ≤ ts.length)) ?_
      conv => whnf
      repeat' (first
        | exact trivial
        | exact rfl
        | exact pureL_tn _ _
        | refine And.intro ?_ ?_
        | exact Nat.le_of_ble_eq_true rfl
        | exact int_eq (by omega)
        | exact int_eq (by rw [IntWalk.i64_in _ (by omega)] <;> omega))
      all_goals (first | exact int_eq (by omega) | skip)
    · have e := ttot_all (show k = ts.length by omega)
      conv => whnf
      repeat' (first
        | (refine fun (_ : _ ≤ maxLen) => ?_; conv => whnf)
        | (refine And.intro (by omega) ?_; conv => whnf)
        | (refine callG_t ?_; conv => whnf)
        | (refine append_same ?_; conv => whnf)
        | (refine get_tn_n (by omega) rfl ?_; conv => whnf)
        | (refine aIf_dec (fun _ => ?_) (fun _ => ?_) <;> conv => whnf))
      all_goals (first | (exfalso; omega) | skip)
      exact retS rfl (int_eq (by rw [e]))
theorem cut_marksTT {f : Nat} {t : TypeId} {ts : List T2} {m : Int} {n : Nat} {k : List AV → Prop} (hn : n = ts.length) (hk : k ((marksTT m ts).flatMap (tnC 0))) : aCut (f + 2) ((marksTT m ts).flatMap (tnO t)) 0 (n * 2) k := cut_tn (by rw [hn, marksTT_length]) hk
theorem heldTs_call {c n : Nat} {ts : List T2} {m : Int} {env : List AV} {rows : List Row} {ctr low : Nat} {k : AV → St → Prop} (hn : n = ts.length) (hpre : ts.length ≤ 1048576 ∧ ttot ts ≤ 1048576 ∧ 0 ≤ m ∧ m ≤ 100000000000) (h : k (.int .i64 (m + ttot ts)) ⟨env, rows, ctr + 1, low⟩) :
    CallB Try.prog 34 ⟨env, rows, ctr, low⟩ [.sl c n ((marksTT m ts).flatMap (tnC c)), .int .i64 m] k := by
  subst hn
  exact callS_in heldTs_sound (c, ts, m) hpre rfl h
end Go.Proofs.Ytjmdhfjemaoebaa
