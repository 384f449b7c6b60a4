import Derived.Test.YtmgggbgejdkamaaM0x14
/- Chapter 4: SumOk of the model. -/
namespace Go.Proofs.Ytmgggbgejdkamaa
set_option maxRecDepth 20000
open Go.RowKit Go.Am
set_option linter.unusedSimpArgs false
attribute [local irreducible] aPlan aGet aIf aLoop aCall RetB NextB CallB CallG aCut aSet aAppend
theorem l4Used_sound : Sound Try.prog 90 (fnS (ι := IS × Nat) (fun | ((c, zs, d, fs, e, o), l) => [.agg [.sl c zs.length (zs.map (.int .i64)), .sl d fs.length (fs.map (slI d)), .sl e o.length (o.map (.int .i64))], .int .i64 l]) (fun _ => True) (fun | ((_, _, _, fs, _, _), l) => .bool (decide (usedP fs l)))) := by
  refine sound_of Try.func90 rfl (enters_of Try.func90 (by kernel_rfl) (by kernel_rfl)) ?_
  rintro ⟨⟨c, zs, d, fs, e, o⟩, l⟩ -
  have hmax : maxLen = 9223372036854775807 := rfl
  conv => whnf
  repeat' (first
    | (refine And.intro rfl (And.intro (List.cons_ne_nil _ _) ?_); conv => whnf)
    | (refine append_same ?_; conv => whnf))
  refine loop_u (ι := Nat) [false, true, true, false, false, true, false, false, false, false, false, false, false, false, false, false, false, false, false, false] (fun k => [(5, .int .i64 k)]) (fun _ => []) (fun k => k ≤ fs.length ∧ ¬ usedP (fs.take k) l) (fun k => fs.length - k) (0) ⟨Nat.zero_le _, fun h => by obtain ⟨f, hf, -⟩ := h; simp at hf⟩ ?_ ?_
  · conv => whnf
    repeat' (first
      | exact trivial
      | exact rfl
      | exact pureL_ints _ _
      | exact pureL_ii _ _
      | refine Or.inr ?_
      | refine And.intro ?_ ?_
      | exact Nat.le_of_ble_eq_true rfl)
  · rintro k ⟨hk, hno⟩
    have hk : k ≤ fs.length := hk
    have hno : ¬ usedP (fs.take k) l := hno
    by_cases hlt : k < fs.length
    · by_cases hm : (l : Int) ∈ fs.getD k []
      · conv => whnf
        repeat' (first
          | (refine fun (_ : _ ≤ maxLen) => ?_; conv => whnf)
          | (refine aGet_in rfl ?_; conv => whnf)
          | (refine And.intro (by omega) ?_; conv => whnf)
          | (refine callG_t ?_; conv => whnf)
          | (refine append_same ?_; conv => whnf)
          | (refine get_ii_n (by omega) ?_; conv => whnf)
          | (refine l4Has_call trivial ?_; conv => whnf)
          | (refine And.intro (pureL_ints _ _) ?_; conv => whnf)
          | (refine aIf_dec (fun _ => ?_) (fun _ => ?_) <;> conv => whnf))
        all_goals (first | (exfalso; omega) | contradiction | skip)
        refine retS rfl (congrArg AV.bool (decide_eq_true ?_).symm)
        refine ⟨fs.getD k [], ?_, hm⟩
        simp only [List.getD, List.getElem?_eq_getElem hlt, Option.getD_some]
        exact List.getElem_mem _
      · conv => whnf
        repeat' (first
          | (refine fun (_ : _ ≤ maxLen) => ?_; conv => whnf)
          | (refine aGet_in rfl ?_; conv => whnf)
          | (refine And.intro (by omega) ?_; conv => whnf)
          | (refine callG_t ?_; conv => whnf)
          | (refine append_same ?_; conv => whnf)
          | (refine get_ii_n (by omega) ?_; conv => whnf)
          | (refine l4Has_call trivial ?_; conv => whnf)
          | (refine And.intro (pureL_ints _ _) ?_; conv => whnf)
          | (refine aIf_dec (fun _ => ?_) (fun _ => ?_) <;> conv => whnf))
        all_goals (first | (exfalso; omega) | contradiction | skip)
        refine next_u (k + 1) (show fs.length - (k + 1) < fs.length - k by omega) ⟨(by omega : k + 1 ≤ fs.length), fun h => ?_⟩ ?_
        · exact ((usedP_succ hlt).1 h).elim hno hm
        · conv => whnf
          repeat' (first
            | exact trivial
            | exact rfl
            | exact pureL_ints _ _
            | exact pureL_ii _ _
            | refine Or.inr ?_
            | refine And.intro ?_ ?_
            | exact Nat.le_of_ble_eq_true rfl
            | exact int_eq (by rw [IntWalk.i64_in _ (by omega)] <;> omega))
    · have e : k = fs.length := by omega
      rw [e, List.take_length] at hno
      conv => whnf
      repeat' (first
        | (refine fun (_ : _ ≤ maxLen) => ?_; conv => whnf)
        | (refine aGet_in rfl ?_; conv => whnf)
        | (refine And.intro (by omega) ?_; conv => whnf)
        | (refine callG_t ?_; conv => whnf)
        | (refine append_same ?_; conv => whnf)
        | (refine get_ii_n (by omega) ?_; conv => whnf)
        | (refine l4Has_call trivial ?_; conv => whnf)
        | (refine aIf_dec (fun _ => ?_) (fun _ => ?_) <;> conv => whnf))
      all_goals (first | (exfalso; omega) | contradiction | skip)
      exact retS rfl (congrArg AV.bool (decide_eq_false hno).symm)
theorem l4Used_call {c d e l : Nat} {zs o : List Int} {fs : List (List Int)} {env : List AV} {rows : List Row} {ctr low : Nat} {k : AV → St → Prop} (hpre : True) (h : k (.bool (decide (usedP fs l))) ⟨env, rows, ctr + 1, low⟩) :
    CallB Try.prog 90 ⟨env, rows, ctr, low⟩ [.agg [.sl c zs.length (zs.map (.int .i64)), .sl d fs.length (fs.map (slI d)), .sl e o.length (o.map (.int .i64))], .int .i64 l] k := callS_in l4Used_sound ((c, zs, d, fs, e, o), l) hpre rfl h
set_option maxHeartbeats 4000000 in
theorem sSumOk_sound : Sound Try.prog 49 sSumOk := by
  refine sound_of Try.func49 rfl (enters_of Try.func49 (by kernel_rfl) (by kernel_rfl)) ?_
  rintro ⟨c, zs, d, fs, e, o⟩ -
  have hmax : maxLen = 9223372036854775807 := rfl
  by_cases h5 : zs.length ≤ 5
  · have hz : zs.length ≤ 1048576 := by omega
    by_cases hf : 1 ≤ fs.length ∧ fs.length ≤ 4
    · have hf' : (1 : Int) ≤ fs.length ∧ (fs.length : Int) ≤ 4 := by omega
      by_cases ho : letP o zs.length
      · conv => whnf
        repeat' (first
          | (refine plan_in (id := 11) [0, 1, 2, 3, 4, 5, 6, 7, 8, 9] (by kernel_rfl) (by kernel_rfl) ?_; conv => whnf)
          | (refine aIf_t ?_; conv => whnf)
          | (refine aIf_f ?_; conv => whnf)
          | (refine fun (_ : _ ≤ maxLen) => ?_; conv => whnf)
          | (refine aGet_in rfl ?_; conv => whnf)
          | (refine And.intro rfl (And.intro (List.cons_ne_nil _ _) ?_); conv => whnf)
          | (refine callG_t ?_; conv => whnf)
          | (refine append_same ?_; conv => whnf)
          | (refine l4Letters_call (by first | omega | assumption | (refine ⟨?_, ?_⟩ <;> first | assumption | omega) | (refine ⟨?_, ?_, ?_⟩ <;> first | assumption | omega)) ?_; conv => whnf)
          | (refine And.intro (pureL_ints _ _) ?_; conv => whnf)
          | (refine in_call ?_; conv => whnf)
          | refine aIf_eqf ?_
          | refine aIf_not ?_
          | (refine aIf_dec (fun _ => ?_) (fun _ => ?_) <;> conv => whnf))
        all_goals (first | (exfalso; omega) | contradiction | skip)
        refine loop_u (ι := Nat) [false, true, false, true, false, false, false, false, false, false, false, false, false, false, false, false, false, false, false, false, false, false, false, false, false, false, false, false, false, false, false, false, false, false, false, false, false, false, false, false, false, false, false, false, false, false, false, false, false, false, false, false, false, false, false, false, false, false, false, false, false, false] (fun k => [(3, .int .i64 k)]) (fun _ => []) (fun k => k ≤ zs.length ∧ ∀ j, j < k → (1 ≤ zs.getD j 0 ∧ zs.getD j 0 ≤ 3) ∧ usedP fs j) (fun k => zs.length - k) (0) ⟨Nat.zero_le _, fun j hj => absurd hj (Nat.not_lt_zero _)⟩ ?_ ?_
        · conv => whnf
          repeat' (first
            | exact trivial
            | exact rfl
            | exact pureL_ints _ _
            | exact pureL_ii _ _
            | refine Or.inr ?_
            | refine And.intro ?_ ?_
            | exact Nat.le_of_ble_eq_true rfl)
        · rintro k ⟨hk, hall⟩
          have hk : k ≤ zs.length := hk
          have hall : ∀ j : Nat, j < k → (1 ≤ zs.getD j 0 ∧ zs.getD j 0 ≤ 3) ∧ usedP fs j := hall
          by_cases hlt : k < zs.length
          · by_cases hin : 1 ≤ zs.getD k 0 ∧ zs.getD k 0 ≤ 3
            · by_cases hu : usedP fs k
              · conv => whnf
                repeat' (first
                  | (refine plan_in (id := 11) [0, 1, 2, 3, 4, 5, 6, 7, 8, 9] (by kernel_rfl) (by kernel_rfl) ?_; conv => whnf)
                  | (refine aIf_t ?_; conv => whnf)
                  | (refine aIf_f ?_; conv => whnf)
                  | (refine fun (_ : _ ≤ maxLen) => ?_; conv => whnf)
                  | (refine get_nat (by omega) ?_; conv => whnf)
                  | (refine aGet_in rfl ?_; conv => whnf)
                  | (refine And.intro (by omega) ?_; conv => whnf)
                  | (refine load_same ?_; conv => whnf)
                  | (refine And.intro (Nat.le_of_ble_eq_true rfl) ?_; conv => whnf)
                  | (refine callG_t ?_; conv => whnf)
                  | (refine append_same ?_; conv => whnf)
                  | (refine And.intro (pureL_ii _ _) ?_; conv => whnf)
                  | (refine l4Used_call trivial ?_; conv => whnf)
                  | (refine takeN_in ?_; conv => whnf)
                  | (refine And.intro (pureL_ints _ _) ?_; conv => whnf)
                  | (refine in_call ?_; conv => whnf)
                  | (refine And.intro (by kernel_rfl) ?_; conv => whnf)
                  | refine aIf_eqf ?_
                  | refine aIf_not ?_
                  | (refine aIf_dec (fun _ => ?_) (fun _ => ?_) <;> conv => whnf))
                all_goals (first | (exfalso; omega) | contradiction | skip)
                refine next_u (k + 1) (show zs.length - (k + 1) < zs.length - k by omega) ⟨(by omega : k + 1 ≤ zs.length), fun j hj => ?_⟩ ?_
                · rcases Nat.lt_succ_iff_lt_or_eq.1 hj with h | rfl
                  · exact hall j h
                  · exact ⟨hin, hu⟩
                · conv => whnf
                  repeat' (first
                    | exact trivial
                    | exact rfl
                    | exact pureL_ints _ _
                    | exact pureL_ii _ _
                    | refine Or.inr ?_
                    | refine And.intro ?_ ?_
                    | exact Nat.le_of_ble_eq_true rfl
                    | exact int_eq (by rw [IntWalk.i64_in _ (by omega)] <;> omega))
              · conv => whnf
                repeat' (first
                  | (refine plan_in (id := 11) [0, 1, 2, 3, 4, 5, 6, 7, 8, 9] (by kernel_rfl) (by kernel_rfl) ?_; conv => whnf)
                  | (refine aIf_t ?_; conv => whnf)
                  | (refine aIf_f ?_; conv => whnf)
                  | (refine fun (_ : _ ≤ maxLen) => ?_; conv => whnf)
                  | (refine get_nat (by omega) ?_; conv => whnf)
                  | (refine aGet_in rfl ?_; conv => whnf)
                  | (refine And.intro (by omega) ?_; conv => whnf)
                  | (refine load_same ?_; conv => whnf)
                  | (refine And.intro (Nat.le_of_ble_eq_true rfl) ?_; conv => whnf)
                  | (refine callG_t ?_; conv => whnf)
                  | (refine append_same ?_; conv => whnf)
                  | (refine And.intro (pureL_ii _ _) ?_; conv => whnf)
                  | (refine l4Used_call trivial ?_; conv => whnf)
                  | (refine takeN_in ?_; conv => whnf)
                  | (refine And.intro (pureL_ints _ _) ?_; conv => whnf)
                  | (refine in_call ?_; conv => whnf)
                  | (refine And.intro (by kernel_rfl) ?_; conv => whnf)
                  | refine aIf_eqf ?_
                  | refine aIf_not ?_
                  | (refine aIf_dec (fun _ => ?_) (fun _ => ?_) <;> conv => whnf))
                all_goals (first | (exfalso; omega) | contradiction | skip)
                exact retS rfl (sumP_f fun h => hu (h.2.2.2.2.2 k hlt))
            · conv => whnf
              repeat' (first
                | (refine plan_in (id := 11) [0, 1, 2, 3, 4, 5, 6, 7, 8, 9] (by kernel_rfl) (by kernel_rfl) ?_; conv => whnf)
                | (refine aIf_t ?_; conv => whnf)
                | (refine aIf_f ?_; conv => whnf)
                | (refine fun (_ : _ ≤ maxLen) => ?_; conv => whnf)
                | (refine get_nat (by omega) ?_; conv => whnf)
                | (refine aGet_in rfl ?_; conv => whnf)
                | (refine And.intro (by omega) ?_; conv => whnf)
                | (refine load_same ?_; conv => whnf)
                | (refine callG_t ?_; conv => whnf)
                | (refine append_same ?_; conv => whnf)
                | (refine l4Used_call trivial ?_; conv => whnf)
                | (refine takeN_in ?_; conv => whnf)
                | (refine in_call ?_; conv => whnf)
                | refine aIf_eqf ?_
                | refine aIf_not ?_
                | (refine aIf_dec (fun _ => ?_) (fun _ => ?_) <;> conv => whnf))
              all_goals (first | (exfalso; omega) | contradiction | skip)
              exact retS rfl (sumP_f fun h => hin ((btw_iff _ _ _).1 h.2.1 k hlt))
          · have hb : btw zs 1 3 = true := btw_t fun j hj => (hall j (by omega)).1
            have htk : takenP fs zs.length := fun j hj => (hall j (by omega)).2
            conv => whnf
            repeat' (first
              | (refine plan_in (id := 11) [0, 1, 2, 3, 4, 5, 6, 7, 8, 9] (by kernel_rfl) (by kernel_rfl) ?_; conv => whnf)
              | (refine aIf_t ?_; conv => whnf)
              | (refine aIf_f ?_; conv => whnf)
              | (refine fun (_ : _ ≤ maxLen) => ?_; conv => whnf)
              | (refine get_nat (by omega) ?_; conv => whnf)
              | (refine aGet_in rfl ?_; conv => whnf)
              | (refine And.intro (by omega) ?_; conv => whnf)
              | (refine load_same ?_; conv => whnf)
              | (refine callG_t ?_; conv => whnf)
              | (refine append_same ?_; conv => whnf)
              | (refine l4Used_call trivial ?_; conv => whnf)
              | (refine takeN_in ?_; conv => whnf)
              | (refine in_call ?_; conv => whnf)
              | refine aIf_eqf ?_
              | refine aIf_not ?_
              | (refine aIf_dec (fun _ => ?_) (fun _ => ?_) <;> conv => whnf))
            all_goals (first | (exfalso; omega) | contradiction | skip)
            refine loop_u (ι := Nat) [false, true, false, false, true, false, false, false, false, false, false, false, false, false, false, false, false, false, false, false, false, false, false, false, false, false, false, false, false, false, false, false, false, false, false, false, false, false, false, false, false, false, false, false, false, false, false, false, false, false, false, false, false, false, false, false, false, false, false, false, false, false] (fun k => [(4, .int .i64 k)]) (fun _ => []) (fun k => k ≤ fs.length ∧ lettersP (fs.take k) zs.length) (fun k => fs.length - k) (0) ⟨Nat.zero_le _, fun f hf => by simp at hf⟩ ?_ ?_
            · conv => whnf
              repeat' (first
                | exact trivial
                | exact rfl
                | exact pureL_ints _ _
                | exact pureL_ii _ _
                | refine Or.inr ?_
                | refine And.intro ?_ ?_
                | exact Nat.le_of_ble_eq_true rfl)
            · rintro k ⟨hk, hall⟩
              have hk : k ≤ fs.length := hk
              have hall : lettersP (fs.take k) zs.length := hall
              by_cases hlt : k < fs.length
              · by_cases hlk : letP (fs.getD k []) zs.length
                · conv => whnf
                  repeat' (first
                    | (refine plan_in (id := 11) [0, 1, 2, 3, 4, 5, 6, 7, 8, 9] (by kernel_rfl) (by kernel_rfl) ?_; conv => whnf)
                    | (refine fun (_ : _ ≤ maxLen) => ?_; conv => whnf)
                    | (refine aGet_in rfl ?_; conv => whnf)
                    | (refine And.intro (by omega) ?_; conv => whnf)
                    | (refine append_same ?_; conv => whnf)
                    | (refine get_ii_n (by omega) ?_; conv => whnf)
                    | (refine l4Letters_call (by first | omega | assumption | (refine ⟨?_, ?_⟩ <;> first | assumption | omega) | (refine ⟨?_, ?_, ?_⟩ <;> first | assumption | omega)) ?_; conv => whnf)
                    | (refine And.intro (pureL_ints _ _) ?_; conv => whnf)
                    | refine aIf_not ?_
                    | (refine aIf_dec (fun _ => ?_) (fun _ => ?_) <;> conv => whnf))
                  all_goals (first | (exfalso; omega) | contradiction | skip)
                  refine next_u (k + 1) (show fs.length - (k + 1) < fs.length - k by omega) ⟨(by omega : k + 1 ≤ fs.length), (lettersP_succ hlt).2 ⟨hall, hlk⟩⟩ ?_
                  conv => whnf
                  repeat' (first
                    | exact trivial
                    | exact rfl
                    | exact pureL_ints _ _
                    | exact pureL_ii _ _
                    | refine Or.inr ?_
                    | refine And.intro ?_ ?_
                    | exact Nat.le_of_ble_eq_true rfl
                    | exact int_eq (by rw [IntWalk.i64_in _ (by omega)] <;> omega))
                · conv => whnf
                  repeat' (first
                    | (refine plan_in (id := 11) [0, 1, 2, 3, 4, 5, 6, 7, 8, 9] (by kernel_rfl) (by kernel_rfl) ?_; conv => whnf)
                    | (refine fun (_ : _ ≤ maxLen) => ?_; conv => whnf)
                    | (refine aGet_in rfl ?_; conv => whnf)
                    | (refine And.intro (by omega) ?_; conv => whnf)
                    | (refine append_same ?_; conv => whnf)
                    | (refine get_ii_n (by omega) ?_; conv => whnf)
                    | (refine l4Letters_call (by first | omega | assumption | (refine ⟨?_, ?_⟩ <;> first | assumption | omega) | (refine ⟨?_, ?_, ?_⟩ <;> first | assumption | omega)) ?_; conv => whnf)
                    | (refine And.intro (pureL_ints _ _) ?_; conv => whnf)
                    | refine aIf_not ?_
                    | (refine aIf_dec (fun _ => ?_) (fun _ => ?_) <;> conv => whnf))
                  all_goals (first | (exfalso; omega) | contradiction | skip)
                  exact retS rfl (sumP_f fun h => hlk (lettersP_k h.2.2.2.2.1 hlt))
              · have he : k = fs.length := by omega
                rw [he, List.take_length] at hall
                conv => whnf
                repeat' (first
                  | (refine plan_in (id := 11) [0, 1, 2, 3, 4, 5, 6, 7, 8, 9] (by kernel_rfl) (by kernel_rfl) ?_; conv => whnf)
                  | (refine fun (_ : _ ≤ maxLen) => ?_; conv => whnf)
                  | (refine aGet_in rfl ?_; conv => whnf)
                  | (refine And.intro (by omega) ?_; conv => whnf)
                  | (refine append_same ?_; conv => whnf)
                  | (refine get_ii_n (by omega) ?_; conv => whnf)
                  | (refine l4Letters_call (by first | omega | assumption | (refine ⟨?_, ?_⟩ <;> first | assumption | omega) | (refine ⟨?_, ?_, ?_⟩ <;> first | assumption | omega)) ?_; conv => whnf)
                  | refine aIf_not ?_
                  | (refine aIf_dec (fun _ => ?_) (fun _ => ?_) <;> conv => whnf))
                all_goals (first | (exfalso; omega) | contradiction | skip)
                exact retS rfl (congrArg AV.bool (decide_eq_true (⟨h5, hb, hf, ho, hall, htk⟩ : sumP zs fs o)).symm)
      · conv => whnf
        repeat' (first
          | (refine plan_in (id := 11) [0, 1, 2, 3, 4, 5, 6, 7, 8, 9] (by kernel_rfl) (by kernel_rfl) ?_; conv => whnf)
          | (refine aIf_t ?_; conv => whnf)
          | (refine aIf_f ?_; conv => whnf)
          | (refine fun (_ : _ ≤ maxLen) => ?_; conv => whnf)
          | (refine aGet_in rfl ?_; conv => whnf)
          | (refine And.intro rfl (And.intro (List.cons_ne_nil _ _) ?_); conv => whnf)
          | (refine callG_t ?_; conv => whnf)
          | (refine append_same ?_; conv => whnf)
          | (refine l4Letters_call (by first | omega | assumption | (refine ⟨?_, ?_⟩ <;> first | assumption | omega) | (refine ⟨?_, ?_, ?_⟩ <;> first | assumption | omega)) ?_; conv => whnf)
          | (refine And.intro (pureL_ints _ _) ?_; conv => whnf)
          | (refine in_call ?_; conv => whnf)
          | refine aIf_eqf ?_
          | refine aIf_not ?_
          | (refine aIf_dec (fun _ => ?_) (fun _ => ?_) <;> conv => whnf))
        all_goals (first | (exfalso; omega) | contradiction | exact retS rfl (sumP_f fun h => ho h.2.2.2.1))
    · have hf' : ¬ ((1 : Int) ≤ fs.length ∧ (fs.length : Int) ≤ 4) := by omega
      conv => whnf
      repeat' (first
        | (refine plan_in (id := 11) [0, 1, 2, 3, 4, 5, 6, 7, 8, 9] (by kernel_rfl) (by kernel_rfl) ?_; conv => whnf)
        | (refine aIf_t ?_; conv => whnf)
        | (refine aIf_f ?_; conv => whnf)
        | (refine fun (_ : _ ≤ maxLen) => ?_; conv => whnf)
        | (refine aGet_in rfl ?_; conv => whnf)
        | (refine And.intro (by omega) ?_; conv => whnf)
        | (refine And.intro rfl (And.intro (List.cons_ne_nil _ _) ?_); conv => whnf)
        | (refine callG_t ?_; conv => whnf)
        | (refine append_same ?_; conv => whnf)
        | (refine l4Letters_call (by first | omega | assumption | (refine ⟨?_, ?_⟩ <;> first | assumption | omega) | (refine ⟨?_, ?_, ?_⟩ <;> first | assumption | omega)) ?_; conv => whnf)
        | (refine in_call ?_; conv => whnf)
        | refine aIf_eqf ?_
        | refine aIf_not ?_
        | (refine aIf_dec (fun _ => ?_) (fun _ => ?_) <;> conv => whnf))
      all_goals (first | (exfalso; omega) | contradiction | exact retS rfl (sumP_f fun h => hf h.2.2.1))
  · conv => whnf
    repeat' (first
      | (refine plan_in (id := 11) [0, 1, 2, 3, 4, 5, 6, 7, 8, 9] (by kernel_rfl) (by kernel_rfl) ?_; conv => whnf)
      | (refine aIf_t ?_; conv => whnf)
      | (refine aIf_f ?_; conv => whnf)
      | (refine fun (_ : _ ≤ maxLen) => ?_; conv => whnf)
      | (refine aGet_in rfl ?_; conv => whnf)
      | (refine And.intro (by omega) ?_; conv => whnf)
      | (refine And.intro rfl (And.intro (List.cons_ne_nil _ _) ?_); conv => whnf)
      | (refine callG_t ?_; conv => whnf)
      | (refine append_same ?_; conv => whnf)
      | (refine l4Letters_call (by first | omega | assumption | (refine ⟨?_, ?_⟩ <;> first | assumption | omega) | (refine ⟨?_, ?_, ?_⟩ <;> first | assumption | omega)) ?_; conv => whnf)
      | (refine in_call ?_; conv => whnf)
      | refine aIf_eqf ?_
      | refine aIf_not ?_
      | (refine aIf_dec (fun _ => ?_) (fun _ => ?_) <;> conv => whnf))
    all_goals (first | (exfalso; omega) | contradiction | exact retS rfl (sumP_f fun h => h5 h.1))
theorem sSumOk_call {c d e : Nat} {zs o : List Int} {fs : List (List Int)} {env : List AV} {rows : List Row} {ctr low : Nat} {k : AV → St → Prop} (hpre : True) (h : k (.bool (decide (sumP zs fs o))) ⟨env, rows, ctr + 1, low⟩) :
    CallB Try.prog 49 ⟨env, rows, ctr, low⟩ [.agg [.sl c zs.length (zs.map (.int .i64)), .sl d fs.length (fs.map (slI d)), .sl e o.length (o.map (.int .i64))]] k := callS_in sSumOk_sound (c, zs, d, fs, e, o) hpre rfl h
end Go.Proofs.Ytmgggbgejdkamaa
