import Derived.Test.YtmgggbgejdkamaaM0x22
import Derived.Test.YtmgggbgejdkamaaM0x21
import Derived.Test.YtmgggbgejdkamaaM0x14
/- Chapter 4: SumValue of the model. -/
namespace Go.Proofs.Ytmgggbgejdkamaa
set_option maxRecDepth 20000
open Go.RowKit Go.Am
set_option linter.unusedSimpArgs false
attribute [local irreducible] aPlan aGet aIf aLoop aCall RetB NextB CallB CallG aCut aSet aAppend
theorem l1PlaceN_sound : Sound Try.prog 105 (fnL (ι := Nat × List Int × Int) 3 (fun | (c, zs, i) => [.sl c zs.length (zs.map (.int .i64)), .int .i64 i]) (fun | (_, zs, _) => zs.length ≤ 1048576 ∧ ∀ j, j < zs.length → 1 ≤ zs.getD j 0 ∧ zs.getD j 0 ≤ 4) (fun | (_, zs, i) => places zs i)) := by
  refine sound_of Try.func105 rfl (enters_of Try.func105 (by kernel_rfl) (by kernel_rfl)) ?_
  rintro ⟨c, zs, i⟩ hpre
  obtain ⟨hpl, hin⟩ : zs.length ≤ 1048576 ∧ ∀ j, j < zs.length → 1 ≤ zs.getD j 0 ∧ zs.getD j 0 ≤ 4 := hpre
  have hmax : maxLen = 9223372036854775807 := rfl
  conv => whnf
  repeat' (first
    | (refine fun (_ : _ ≤ maxLen) => ?_; conv => whnf)
    | (refine And.intro (And.intro (Int.le_refl _) (And.intro (by kernel_rfl) (And.intro rfl (by kernel_rfl)))) (And.intro (And.intro (by omega) (And.intro (bytes_le (b := 8) rfl (by omega)) (by omega))) ?_); conv => whnf)
    | (refine append_same ?_; conv => whnf))
  refine loop_u (ι := Nat × List Int) [true, true, false, false, false, true, true, false, false, false, false, false, false, false, false, false, false, false, false, false, false, false, false, false, false, false, false, false, false, false, false, false, false] (fun | (q, _) => [(1, .int .i64 (quoT zs i (zs.length - q))), (6, .int .i64 (q - 1))]) (fun | (_, ws) => [(1, ws.map (.int .i64))]) (plInv zs i) (fun x => x.1) ((zs.length, List.replicate zs.length 0)) (plInv_0 zs i) ?_ ?_
  · have e0 : i = quoT zs i (zs.length - zs.length) := by rw [Nat.sub_self]; rfl
    conv => whnf
    repeat' (first
      | exact trivial
      | exact rfl
      | exact pureL_ints _ _
      | exact Or.inl (And.intro rfl rfl)
      | exact le_ints (rep_ints _ _)
      | refine And.intro ?_ ?_
      | exact Nat.le_of_ble_eq_true rfl
      | exact int_eq (by assumption)
      | exact int_eq (by rw [IntWalk.i64_in _ (by omega)] <;> omega))
  · rintro ⟨q, ws⟩ hi
    have hq : q ≤ zs.length := hi.1
    have hl : ws.length = zs.length := hi.2.1
    by_cases h0 : q = 0
    · subst h0
      conv => whnf
      repeat' (first
        | (refine aIf_f ?_; conv => whnf)
        | (refine append_same ?_; conv => whnf))
      all_goals (first
        | exact (by have e := plInv_end hi; subst e; exact retL rfl rfl rfl (places_length zs i).symm)
        | (exfalso; omega))
    · obtain ⟨q, rfl⟩ : ∃ q', q = q' + 1 := ⟨q - 1, by omega⟩
      have e1 : (((q + 1 : Nat) : Int) - 1).toNat = q := by omega
      have hz := hin q (by omega)
      have hz' : 1 ≤ zs.getD (((q + 1 : Nat) : Int) - 1).toNat 0 ∧ zs.getD (((q + 1 : Nat) : Int) - 1).toNat 0 ≤ 4 := by rw [e1]; exact hz
      have e2 := quoT_next (zs := zs) (i := i) hq
      conv => whnf
      repeat' (first
        | (refine get_int (by omega) ?_; conv => whnf)
        | (refine And.intro (by omega) ?_; conv => whnf)
        | (refine append_same ?_; conv => whnf)
        | (refine And.intro rfl (And.intro rfl (And.intro (by first | omega | (rw [List.length_map]; omega)) ?_)); conv => whnf)
        | (refine set_int ?_ (by omega); conv => whnf)
        | (refine aIf_dec (fun _ => ?_) (fun _ => ?_) <;> conv => whnf))
      · rw [e1]
        refine next_u (q, ws.set q ((quoT zs i (zs.length - (q + 1))).tmod (zs.getD q 0))) (Nat.lt_succ_self _) (plInv_next hi) ?_
        rw [← e2]
        conv => whnf
        repeat' (first
          | exact trivial
          | exact rfl
          | exact pureL_ints _ _
          | exact Or.inl (And.intro rfl rfl)
          | exact le_ints rfl
          | refine And.intro ?_ ?_
          | exact Nat.le_of_ble_eq_true rfl
          | exact int_eq (by rw [IntWalk.i64_in _ (by omega)] <;> omega))
      all_goals (exfalso; omega)
theorem l1PlaceN_call {c : Nat} {zs : List Int} {i : Int} {env : List AV} {rows : List Row} {ctr low : Nat} {k : AV → St → Prop} (hpre : zs.length ≤ 1048576 ∧ ∀ j, j < zs.length → 1 ≤ zs.getD j 0 ∧ zs.getD j 0 ≤ 4) (h : k (.ref rows.length ctr 0 (places zs i).length) ⟨env, rows ++ [⟨ctr, 3, 1, (places zs i).map (.int .i64)⟩], ctr + 1, low⟩) :
    CallB Try.prog 105 ⟨env, rows, ctr, low⟩ [.sl c zs.length (zs.map (.int .i64)), .int .i64 i] k := callL_in l1PlaceN_sound (c, zs, i) hpre h
set_option maxHeartbeats 4000000 in
theorem l4Tensors_sound : Sound Try.prog 76 sFactorsOk := by
  refine sound_of Try.func76 rfl (enters_of Try.func76 (by kernel_rfl) (by kernel_rfl)) ?_
  rintro ⟨⟨c, zs, d, fs, e, o⟩, g, ts⟩ -
  have hmax : maxLen = 9223372036854775807 := rfl
  by_cases h : sumP zs fs o
  · have h4 := h.2.2.1
    by_cases hl : ts.length = fs.length
    · conv => whnf
      repeat' (first
        | (refine plan_in (id := 6) [0, 1, 2, 3, 4, 5, 6, 7, 8, 9, 10, 11, 12, 13, 14, 15, 16, 17, 18, 19, 20, 21] (by kernel_rfl) (by kernel_rfl) ?_; conv => whnf)
        | (refine aIf_t ?_; conv => whnf)
        | (refine aIf_f ?_; conv => whnf)
        | (refine fun (_ : _ ≤ maxLen) => ?_; conv => whnf)
        | (refine aGet_in rfl ?_; conv => whnf)
        | (refine load_same ?_; conv => whnf)
        | (refine And.intro rfl (And.intro (List.cons_ne_nil _ _) ?_); conv => whnf)
        | (refine And.intro (Nat.le_of_ble_eq_true rfl) ?_; conv => whnf)
        | (refine callG_t ?_; conv => whnf)
        | (refine append_same ?_; conv => whnf)
        | (refine And.intro (pureL_ii _ _) ?_; conv => whnf)
        | (refine sSumOk_call trivial ?_; conv => whnf)
        | (refine takeN_in ?_; conv => whnf)
        | (refine And.intro (pureL_ints _ _) ?_; conv => whnf)
        | (refine And.intro (by kernel_rfl) ?_; conv => whnf)
        | refine aIf_eqf ?_
        | refine aIf_not ?_
        | (refine aIf_dec (fun _ => ?_) (fun _ => ?_) <;> conv => whnf))
      all_goals (first | (exfalso; omega) | contradiction | skip)
      refine loop_u (ι := Nat) [false, true, true, false, false, true, false, false, false, false, false, false, false, false, false, false, false, false, false, false, false, false, false, false, false, false, false, false, false, false, false, false, false, false, false, false, false, false, false, false, false, false, false, false, false, false, false, false, false, false, false, false, false, false, false, false, false, false, false, false, false, false, false, false, false, false] (fun k => [(5, .int .i64 k)]) (fun _ => []) (fun k => k ≤ ts.length ∧ ∀ j, j < k → svK zs fs ts j) (fun k => ts.length - k) (0) ⟨Nat.zero_le _, fun j hj => absurd hj (Nat.not_lt_zero _)⟩ ?_ ?_
      · conv => whnf
        repeat' (first
          | exact trivial
          | exact rfl
          | exact pureL_ints _ _
          | exact pureL_ii _ _
          | exact pureL_tn _ _
          | refine Or.inr ?_
          | refine And.intro ?_ ?_
          | exact Nat.le_of_ble_eq_true rfl)
      · rintro k ⟨hk, hall⟩
        have hk : k ≤ ts.length := hk
        have hall : ∀ j, j < k → svK zs fs ts j := hall
        by_cases hlt : k < ts.length
        · have hlk := lettersP_k h.2.2.2.2.1 (show k < fs.length by omega)
          have i3 := hlk.1
          have iin := difP_in hlk.2
          by_cases hT : tensorOk (ts.getD k ([], [])).1 (ts.getD k ([], [])).2 = true
          · by_cases hS : (ts.getD k ([], [])).1 = turned zs (fs.getD k [])
            · conv => whnf
              repeat' (first
                | (refine plan_in (id := 6) [0, 1, 2, 3, 4, 5, 6, 7, 8, 9, 10, 11, 12, 13, 14, 15, 16, 17, 18, 19, 20, 21] (by kernel_rfl) (by kernel_rfl) ?_; conv => whnf)
                | (refine aIf_t ?_; conv => whnf)
                | (refine aIf_f ?_; conv => whnf)
                | (refine fun (_ : _ ≤ maxLen) => ?_; conv => whnf)
                | (refine aGet_in rfl ?_; conv => whnf)
                | (refine And.intro (by omega) ?_; conv => whnf)
                | (refine load_same ?_; conv => whnf)
                | (refine And.intro (Nat.le_of_ble_eq_true rfl) ?_; conv => whnf)
                | (refine sTensorOk_call ?_; conv => whnf)
                | (refine append_same ?_; conv => whnf)
                | (refine get_ii_n (by omega) ?_; conv => whnf)
                | (refine get_tn_n (by omega) rfl ?_; conv => whnf)
                | (refine part_tn_n (by omega) ?_; conv => whnf)
                | (refine And.intro (pureL_ii _ _) ?_; conv => whnf)
                | (refine l4Shape_call (by first | omega | assumption | (refine ⟨?_, ?_⟩ <;> first | assumption | omega) | (refine ⟨?_, ?_, ?_⟩ <;> first | assumption | omega)) ?_; conv => whnf)
                | (refine takeN_in ?_; conv => whnf)
                | (refine And.intro (pureL_ints _ _) ?_; conv => whnf)
                | (refine cut_ints ?_; conv => whnf)
                | (refine l1Same_call ?_; conv => whnf)
                | (refine And.intro (by kernel_rfl) ?_; conv => whnf)
                | (refine aIf_tt (by assumption) ?_; conv => whnf)
                | refine aIf_eqf ?_
                | refine aIf_not ?_
                | (refine aIf_dec (fun _ => ?_) (fun _ => ?_) <;> conv => whnf))
              all_goals (first | (exfalso; omega) | contradiction | skip)
              refine loop_u (ι := Nat) [false, true, true, false, false, true, true, false, false, false, false, false, false, false, false, false, false, false, false, false, false, false, false, false, false, false, false, false, false, false, false, false, false, false, false, false, false, false, false, false, false, false, false, false, false, false, false, false, false, false, false, false, false, false, false, false, false, false, false, false, false, false, false, false, false, false] (fun j => [(6, .int .i64 j)]) (fun _ => []) (fun j => j ≤ (ts.getD k ([], [])).2.length ∧ ∀ i, i < j → -1000 ≤ (ts.getD k ([], [])).2.getD i 0 ∧ (ts.getD k ([], [])).2.getD i 0 ≤ 1000) (fun j => (ts.getD k ([], [])).2.length - j) (0) ⟨Nat.zero_le _, fun j hj => absurd hj (Nat.not_lt_zero _)⟩ ?_ ?_
              · conv => whnf
                repeat' (first
                  | exact trivial
                  | exact rfl
                  | exact pureL_ints _ _
                  | exact le_ints rfl
                  | exact pureL_ii _ _
                  | exact pureL_tn _ _
                  | refine Or.inr ?_
                  | refine And.intro ?_ ?_
                  | exact Nat.le_of_ble_eq_true rfl)
              · rintro j ⟨hj, hin⟩
                have hj : j ≤ (ts.getD k ([], [])).2.length := hj
                have hin : ∀ i, i < j → -1000 ≤ (ts.getD k ([], [])).2.getD i 0 ∧ (ts.getD k ([], [])).2.getD i 0 ≤ 1000 := hin
                by_cases hjl : j < (ts.getD k ([], [])).2.length
                · by_cases hb : -1000 ≤ (ts.getD k ([], [])).2.getD j 0 ∧ (ts.getD k ([], [])).2.getD j 0 ≤ 1000
                  · conv => whnf
                    repeat' (first
                      | (refine plan_in (id := 6) [0, 1, 2, 3, 4, 5, 6, 7, 8, 9, 10, 11, 12, 13, 14, 15, 16, 17, 18, 19, 20, 21] (by kernel_rfl) (by kernel_rfl) ?_; conv => whnf)
                      | (refine fun (_ : _ ≤ maxLen) => ?_; conv => whnf)
                      | (refine get_nat (by omega) ?_; conv => whnf)
                      | (refine And.intro (by omega) ?_; conv => whnf)
                      | (refine callG_t ?_; conv => whnf)
                      | (refine append_same ?_; conv => whnf)
                      | (refine get_tn_n (by omega) rfl ?_; conv => whnf)
                      | (refine in_call ?_; conv => whnf)
                      | refine aIf_not ?_
                      | (refine aIf_dec (fun _ => ?_) (fun _ => ?_) <;> conv => whnf))
                    all_goals (first | (exfalso; omega) | contradiction | skip)
                    refine next_u (j + 1) (show (ts.getD k ([], [])).2.length - (j + 1) < (ts.getD k ([], [])).2.length - j by omega) ⟨(by omega : j + 1 ≤ (ts.getD k ([], [])).2.length), fun i hi => ?_⟩ ?_
                    · rcases Nat.lt_succ_iff_lt_or_eq.1 hi with h | rfl
                      · exact hin i h
                      · exact hb
                    · conv => whnf
                      repeat' (first
                        | exact trivial
                        | exact rfl
                        | exact pureL_ints _ _
                        | exact le_ints rfl
                        | exact pureL_ii _ _
                        | exact pureL_tn _ _
                        | refine Or.inr ?_
                        | refine And.intro ?_ ?_
                        | exact Nat.le_of_ble_eq_true rfl
                        | exact int_eq (by rw [IntWalk.i64_in _ (by omega)] <;> omega))
                  · conv => whnf
                    repeat' (first
                      | (refine plan_in (id := 6) [0, 1, 2, 3, 4, 5, 6, 7, 8, 9, 10, 11, 12, 13, 14, 15, 16, 17, 18, 19, 20, 21] (by kernel_rfl) (by kernel_rfl) ?_; conv => whnf)
                      | (refine fun (_ : _ ≤ maxLen) => ?_; conv => whnf)
                      | (refine get_nat (by omega) ?_; conv => whnf)
                      | (refine And.intro (by omega) ?_; conv => whnf)
                      | (refine callG_t ?_; conv => whnf)
                      | (refine append_same ?_; conv => whnf)
                      | (refine get_tn_n (by omega) rfl ?_; conv => whnf)
                      | (refine in_call ?_; conv => whnf)
                      | refine aIf_not ?_
                      | (refine aIf_dec (fun _ => ?_) (fun _ => ?_) <;> conv => whnf))
                    all_goals (first | (exfalso; omega) | contradiction | skip)
                    exact retS rfl (svP_f fun h' => hb ((btw_iff _ _ _).1 (h'.2.2 k hlt).2.2 j hjl))
                · have hB : btw (ts.getD k ([], [])).2 (-1000) 1000 = true := btw_t fun i hi => hin i (by omega)
                  conv => whnf
                  repeat' (first
                    | (refine plan_in (id := 6) [0, 1, 2, 3, 4, 5, 6, 7, 8, 9, 10, 11, 12, 13, 14, 15, 16, 17, 18, 19, 20, 21] (by kernel_rfl) (by kernel_rfl) ?_; conv => whnf)
                    | (refine fun (_ : _ ≤ maxLen) => ?_; conv => whnf)
                    | (refine get_nat (by omega) ?_; conv => whnf)
                    | (refine And.intro (by omega) ?_; conv => whnf)
                    | (refine callG_t ?_; conv => whnf)
                    | (refine append_same ?_; conv => whnf)
                    | (refine get_tn_n (by omega) rfl ?_; conv => whnf)
                    | (refine in_call ?_; conv => whnf)
                    | refine aIf_not ?_
                    | (refine aIf_dec (fun _ => ?_) (fun _ => ?_) <;> conv => whnf))
                  all_goals (first | (exfalso; omega) | contradiction | skip)
                  refine next_u (k + 1) (show ts.length - (k + 1) < ts.length - k by omega) ⟨(by omega : k + 1 ≤ ts.length), fun j hj => ?_⟩ ?_
                  · rcases Nat.lt_succ_iff_lt_or_eq.1 hj with h | rfl
                    · exact hall j h
                    · exact ⟨hT, hS, hB⟩
                  · conv => whnf
                    repeat' (first
                      | exact trivial
                      | exact rfl
                      | exact pureL_ints _ _
                      | exact pureL_ii _ _
                      | exact pureL_tn _ _
                      | refine Or.inr ?_
                      | refine And.intro ?_ ?_
                      | exact Nat.le_of_ble_eq_true rfl
                      | exact int_eq (by rw [IntWalk.i64_in _ (by omega)] <;> omega))
            · conv => whnf
              repeat' (first
                | (refine plan_in (id := 6) [0, 1, 2, 3, 4, 5, 6, 7, 8, 9, 10, 11, 12, 13, 14, 15, 16, 17, 18, 19, 20, 21] (by kernel_rfl) (by kernel_rfl) ?_; conv => whnf)
                | (refine aIf_t ?_; conv => whnf)
                | (refine aIf_f ?_; conv => whnf)
                | (refine fun (_ : _ ≤ maxLen) => ?_; conv => whnf)
                | (refine aGet_in rfl ?_; conv => whnf)
                | (refine And.intro (by omega) ?_; conv => whnf)
                | (refine load_same ?_; conv => whnf)
                | (refine And.intro (Nat.le_of_ble_eq_true rfl) ?_; conv => whnf)
                | (refine sTensorOk_call ?_; conv => whnf)
                | (refine append_same ?_; conv => whnf)
                | (refine get_ii_n (by omega) ?_; conv => whnf)
                | (refine get_tn_n (by omega) rfl ?_; conv => whnf)
                | (refine part_tn_n (by omega) ?_; conv => whnf)
                | (refine And.intro (pureL_ii _ _) ?_; conv => whnf)
                | (refine l4Shape_call (by first | omega | assumption | (refine ⟨?_, ?_⟩ <;> first | assumption | omega) | (refine ⟨?_, ?_, ?_⟩ <;> first | assumption | omega)) ?_; conv => whnf)
                | (refine takeN_in ?_; conv => whnf)
                | (refine And.intro (pureL_ints _ _) ?_; conv => whnf)
                | (refine cut_ints ?_; conv => whnf)
                | (refine l1Same_call ?_; conv => whnf)
                | (refine And.intro (by kernel_rfl) ?_; conv => whnf)
                | (refine aIf_tt (by assumption) ?_; conv => whnf)
                | refine aIf_eqf ?_
                | refine aIf_not ?_
                | (refine aIf_dec (fun _ => ?_) (fun _ => ?_) <;> conv => whnf))
              all_goals (first | (exfalso; omega) | contradiction | skip)
              exact retS rfl (svP_f fun h' => hS (h'.2.2 k hlt).2.1)
          · have hT' : tensorOk (ts.getD k ([], [])).1 (ts.getD k ([], [])).2 = false := by simpa using hT
            conv => whnf
            repeat' (first
              | (refine plan_in (id := 6) [0, 1, 2, 3, 4, 5, 6, 7, 8, 9, 10, 11, 12, 13, 14, 15, 16, 17, 18, 19, 20, 21] (by kernel_rfl) (by kernel_rfl) ?_; conv => whnf)
              | (refine aIf_t ?_; conv => whnf)
              | (refine aIf_f ?_; conv => whnf)
              | (refine fun (_ : _ ≤ maxLen) => ?_; conv => whnf)
              | (refine And.intro (by omega) ?_; conv => whnf)
              | (refine sTensorOk_call ?_; conv => whnf)
              | (refine append_same ?_; conv => whnf)
              | (refine part_tn_n (by omega) ?_; conv => whnf)
              | (refine And.intro (pureL_ints _ _) ?_; conv => whnf)
              | (refine aIf_ff (by assumption) ?_; conv => whnf)
              | refine aIf_eqf ?_
              | refine aIf_not ?_
              | (refine aIf_dec (fun _ => ?_) (fun _ => ?_) <;> conv => whnf))
            all_goals (first | (exfalso; omega) | contradiction | skip)
            exact retS rfl (svP_f fun h' => hT (h'.2.2 k hlt).1)
        · conv => whnf
          repeat' (first
            | (refine plan_in (id := 6) [0, 1, 2, 3, 4, 5, 6, 7, 8, 9, 10, 11, 12, 13, 14, 15, 16, 17, 18, 19, 20, 21] (by kernel_rfl) (by kernel_rfl) ?_; conv => whnf)
            | (refine aIf_t ?_; conv => whnf)
            | (refine aIf_f ?_; conv => whnf)
            | (refine fun (_ : _ ≤ maxLen) => ?_; conv => whnf)
            | (refine aGet_in rfl ?_; conv => whnf)
            | (refine And.intro (by omega) ?_; conv => whnf)
            | (refine load_same ?_; conv => whnf)
            | (refine sTensorOk_call ?_; conv => whnf)
            | (refine append_same ?_; conv => whnf)
            | (refine get_ii_n (by omega) ?_; conv => whnf)
            | (refine get_tn_n (by omega) rfl ?_; conv => whnf)
            | (refine part_tn_n (by omega) ?_; conv => whnf)
            | (refine l4Shape_call (by first | omega | assumption | (refine ⟨?_, ?_⟩ <;> first | assumption | omega) | (refine ⟨?_, ?_, ?_⟩ <;> first | assumption | omega)) ?_; conv => whnf)
            | (refine takeN_in ?_; conv => whnf)
            | (refine cut_ints ?_; conv => whnf)
            | (refine l1Same_call ?_; conv => whnf)
            | refine aIf_eqf ?_
            | refine aIf_not ?_
            | (refine aIf_dec (fun _ => ?_) (fun _ => ?_) <;> conv => whnf)
            | (refine aIf_in (fun _ => ?_) (fun _ => ?_) <;> conv => whnf))
          all_goals (first | (exfalso; omega) | contradiction | skip)
          exact retS rfl (svP_t ⟨h, hl, fun j hj => hall j (by omega)⟩)
    · conv => whnf
      repeat' (first
        | (refine plan_in (id := 6) [0, 1, 2, 3, 4, 5, 6, 7, 8, 9, 10, 11, 12, 13, 14, 15, 16, 17, 18, 19, 20, 21] (by kernel_rfl) (by kernel_rfl) ?_; conv => whnf)
        | (refine aIf_t ?_; conv => whnf)
        | (refine aIf_f ?_; conv => whnf)
        | (refine fun (_ : _ ≤ maxLen) => ?_; conv => whnf)
        | (refine aGet_in rfl ?_; conv => whnf)
        | (refine load_same ?_; conv => whnf)
        | (refine And.intro rfl (And.intro (List.cons_ne_nil _ _) ?_); conv => whnf)
        | (refine And.intro (Nat.le_of_ble_eq_true rfl) ?_; conv => whnf)
        | (refine callG_t ?_; conv => whnf)
        | (refine append_same ?_; conv => whnf)
        | (refine And.intro (pureL_ii _ _) ?_; conv => whnf)
        | (refine sSumOk_call trivial ?_; conv => whnf)
        | (refine takeN_in ?_; conv => whnf)
        | (refine And.intro (pureL_ints _ _) ?_; conv => whnf)
        | (refine And.intro (by kernel_rfl) ?_; conv => whnf)
        | refine aIf_eqf ?_
        | refine aIf_not ?_
        | (refine aIf_dec (fun _ => ?_) (fun _ => ?_) <;> conv => whnf))
      all_goals (first | (exfalso; omega) | contradiction | exact retS rfl (svP_f fun h' => hl h'.2.1))
  · conv => whnf
    repeat' (first
      | (refine plan_in (id := 6) [0, 1, 2, 3, 4, 5, 6, 7, 8, 9, 10, 11, 12, 13, 14, 15, 16, 17, 18, 19, 20, 21] (by kernel_rfl) (by kernel_rfl) ?_; conv => whnf)
      | (refine aIf_t ?_; conv => whnf)
      | (refine aIf_f ?_; conv => whnf)
      | (refine fun (_ : _ ≤ maxLen) => ?_; conv => whnf)
      | (refine aGet_in rfl ?_; conv => whnf)
      | (refine load_same ?_; conv => whnf)
      | (refine And.intro rfl (And.intro (List.cons_ne_nil _ _) ?_); conv => whnf)
      | (refine And.intro (Nat.le_of_ble_eq_true rfl) ?_; conv => whnf)
      | (refine callG_t ?_; conv => whnf)
      | (refine append_same ?_; conv => whnf)
      | (refine And.intro (pureL_ii _ _) ?_; conv => whnf)
      | (refine sSumOk_call trivial ?_; conv => whnf)
      | (refine takeN_in ?_; conv => whnf)
      | (refine And.intro (pureL_ints _ _) ?_; conv => whnf)
      | (refine And.intro (by kernel_rfl) ?_; conv => whnf)
      | refine aIf_eqf ?_
      | refine aIf_not ?_
      | (refine aIf_dec (fun _ => ?_) (fun _ => ?_) <;> conv => whnf))
    all_goals (first | contradiction | exact retS rfl (svP_f fun h' => h h'.1))
theorem l4Tensors_call {c d e g : Nat} {zs o : List Int} {fs : List (List Int)} {ts : List T2} {env : List AV} {rows : List Row} {ctr low : Nat} {k : AV → St → Prop} (hpre : True) (h : k (.bool (decide (svP zs fs o ts))) ⟨env, rows, ctr + 1, low⟩) :
    CallB Try.prog 76 ⟨env, rows, ctr, low⟩ [.agg [.sl c zs.length (zs.map (.int .i64)), .sl d fs.length (fs.map (slI d)), .sl e o.length (o.map (.int .i64))], .sl g ts.length (ts.flatMap (tnC g))] k := callS_in l4Tensors_sound ((c, zs, d, fs, e, o), g, ts) hpre rfl h
set_option maxHeartbeats 4000000 in
theorem l4Value_sound : Sound Try.prog 77 (fnT (ι := IS × Nat × MT) 3 (fun | ((c, zs, d, fs, e, o), g, M) => [.agg [.sl c zs.length (zs.map (.int .i64)), .sl d fs.length (fs.map (slI d)), .sl e o.length (o.map (.int .i64))], .sl g M.length (M.flatMap mtC)]) (fun | ((_, zs, _, fs, _, o), _, M) => svQ zs fs o (M.map Prod.snd)) (fun | ((_, zs, _, _, _, o), _, _) => turned zs o) (fun | ((_, zs, _, fs, _, o), _, M) => svT zs fs o (M.map Prod.snd) (cntTo zs zs.length).toNat)) := by
  refine sound_of Try.func77 rfl (enters_of Try.func77 (by kernel_rfl) (by kernel_rfl)) ?_
  rintro ⟨⟨c, zs, d, fs, e, o⟩, g, M⟩ hpre
  have h : svQ zs fs o (M.map Prod.snd) := hpre
  have hmax : maxLen = 9223372036854775807 := rfl
  have h1 := h.1
  have hz := sizes_in h1
  have hz4 : ∀ j, j < zs.length → 1 ≤ zs.getD j 0 ∧ zs.getD j 0 ≤ 4 := fun j hj => by have := hz j hj; omega
  have hc := cnt3 h1.1 hz
  have ho := h1.2.2.2.1
  have ho3 : o.length ≤ 3 := ho.1
  have hoin := difP_in ho.2
  have hsh := pk_shape hz ho
  have hcs := cnt64 hsh (Nat.le_refl _)
  have hz5 : zs.length ≤ 1048576 := by have := h1.1; omega
  conv => whnf
  repeat' (first
    | (refine plan_in (id := 11) [0, 1, 2, 3, 4, 5, 6, 7, 8, 9, 10, 11, 12, 13, 14, 15, 16, 17, 18, 19, 20, 21, 22] (by kernel_rfl) (by kernel_rfl) ?_; conv => whnf)
    | (refine plan_in (id := 12) [0, 1, 2, 3, 4, 5, 6, 7] (by kernel_rfl) (by kernel_rfl) ?_; conv => whnf)
    | (refine plan_in (id := 13) [0, 1, 2, 3, 4, 5, 6, 7, 8, 9, 10, 11] (by kernel_rfl) (by kernel_rfl) ?_; conv => whnf)
    | (refine aGet_in rfl ?_; conv => whnf)
    | (refine And.intro (And.intro (Int.le_refl _) (And.intro (by kernel_rfl) (And.intro rfl (by kernel_rfl)))) (And.intro (And.intro (by omega) (And.intro (bytes_le (b := 8) rfl (by omega)) (by omega))) ?_); conv => whnf)
    | (refine load_same ?_; conv => whnf)
    | (refine And.intro rfl (And.intro (List.cons_ne_nil _ _) ?_); conv => whnf)
    | (refine And.intro (Nat.le_of_ble_eq_true rfl) ?_; conv => whnf)
    | (refine callG_t ?_; conv => whnf)
    | (refine append_same ?_; conv => whnf)
    | (refine And.intro (pureL_ii _ _) ?_; conv => whnf)
    | (refine l4Shape_call (by first | omega | assumption | (refine ⟨?_, ?_⟩ <;> first | assumption | omega) | (refine ⟨?_, ?_, ?_⟩ <;> first | assumption | omega)) ?_; conv => whnf)
    | (refine takeN_in ?_; conv => whnf)
    | (refine And.intro (pureL_ints _ _) ?_; conv => whnf)
    | (refine cut_ints ?_; conv => whnf)
    | (refine l1Count_call ?_; conv => whnf)
    | (refine set_force ?_; conv => whnf)
    | (refine And.intro (by kernel_rfl) ?_; conv => whnf))
  have h0 : rep (cntTo (turned zs o) (turned zs o).length).toNat [AV.int .i64 0] = (svT zs fs o (M.map Prod.snd) 0).map (.int .i64) := by rw [rep_ints]; rfl
  refine loop_u (ι := Nat) [false, true, true, false, true, true, true, false, false, false, false, false, false, false, false, false, false, false, false, false, false, false, false, false, false, false, false, false, false, false, false, false, false, false, false, false, false, false, false, false, false, false, false, false, false, false, false, false, false, false, false, false, false, false, false, false, false, false, false, false, false, false, false, false, false, false, false, false, false, false, false, false, false, false, false, false, false, false, false] (fun i => [(6, .int .i64 i)]) (fun i => [(9, (svT zs fs o (M.map Prod.snd) i).map (.int .i64))]) (fun i => (i : Int) ≤ cntTo zs zs.length) (fun i => (cntTo zs zs.length).toNat - i) (0) (by omega) ?_ ?_
  · conv => whnf
    repeat' (first | exact le_ints h0 | refine And.intro ?_ ?_)
    repeat' (first
      | exact trivial
      | exact rfl
      | exact pureL_ints _ _
      | exact Or.inl (And.intro rfl rfl)
      | exact le_ints rfl
      | exact pureL_ii _ _
      | exact pureL_mt _
      | refine Or.inr ?_
      | refine And.intro ?_ ?_
      | exact Nat.le_of_ble_eq_true rfl)
  · rintro i hi
    have hi : (i : Int) ≤ cntTo zs zs.length := hi
    have hi3 : i ≤ 1000 := by omega
    have hsl := svT_length zs fs o (M.map Prod.snd) i
    by_cases hlt : (i : Int) < cntTo zs zs.length
    · have ofc := o_facts (i := (i : Int)) h1 (by omega)
      have hot : o.length ≤ 3 ∧ ∀ k, k < o.length → 0 ≤ o.getD k 0 ∧ o.getD k 0 < (places zs i).length := ⟨ho3, fun j hj => by rw [places_length]; exact hoin j hj⟩
      have hol : (turned (places zs i) o).length = (turned zs o).length := by rw [turned_length, turned_length]
      have hrg : 0 ≤ idxTo (turned zs o) (turned (places zs i) o) (turned zs o).length ∧ idxTo (turned zs o) (turned (places zs i) o) (turned zs o).length < cntTo (turned zs o) (turned zs o).length := ofc.rg
      have ir : 0 ≤ idxTo (turned zs o) (turned (places zs i) o) (turned zs o).length ∧ idxTo (turned zs o) (turned (places zs i) o) (turned zs o).length < (svT zs fs o (M.map Prod.snd) i).length := by omega
      have en : svT zs fs o (M.map Prod.snd) (i + 1) = (svT zs fs o (M.map Prod.snd) i).set (idxTo (turned zs o) (turned (places zs i) o) (turned zs o).length).toNat (IntKind.i64.wrap ((svT zs fs o (M.map Prod.snd) i).getD (idxTo (turned zs o) (turned (places zs i) o) (turned zs o).length).toNat 0 + facT zs fs (M.map Prod.snd) i fs.length)) := rfl
      conv => whnf
      repeat' (first
        | (refine plan_in (id := 11) [0, 1, 2, 3, 4, 5, 6, 7, 8, 9, 10, 11, 12, 13, 14, 15, 16, 17, 18, 19, 20, 21, 22] (by kernel_rfl) (by kernel_rfl) ?_; conv => whnf)
        | (refine plan_in (id := 12) [0, 1, 2, 3, 4, 5, 6, 7] (by kernel_rfl) (by kernel_rfl) ?_; conv => whnf)
        | (refine plan_in (id := 13) [0, 1, 2, 3, 4, 5, 6, 7, 8, 9, 10, 11] (by kernel_rfl) (by kernel_rfl) ?_; conv => whnf)
        | (refine aGet_in rfl ?_; conv => whnf)
        | (refine And.intro (by omega) ?_; conv => whnf)
        | (refine load_same ?_; conv => whnf)
        | (refine callG_t ?_; conv => whnf)
        | (refine append_same ?_; conv => whnf)
        | (refine l1PlaceN_call (by first | omega | assumption | (refine ⟨?_, ?_⟩ <;> first | assumption | omega) | (refine ⟨?_, ?_, ?_⟩ <;> first | assumption | omega)) ?_; conv => whnf)
        | (refine takeN_in ?_; conv => whnf)
        | (refine And.intro (pureL_ints _ _) ?_; conv => whnf)
        | (refine l1Count_call ?_; conv => whnf)
        | (refine set_force ?_; conv => whnf)
        | (refine aIf_dec (fun _ => ?_) (fun _ => ?_) <;> conv => whnf))
      all_goals (first | (exfalso; omega) | contradiction | skip)
      refine loop_u (ι := Nat) [false, true, true, false, true, true, true, true, true, true, false, false, false, false, false, false, false, false, false, false, false, false, false, false, false, false, false, false, false, false, false, false, false, false, false, false, false, false, false, false, false, false, false, false, false, false, false, false, false, false, false, false, false, false, false, false, false, false, false, false, false, false, false, false, false, false, false, false, false, false, false, false, false, false, false, false, false, false, false] (fun k => [(8, .int .i64 (facT zs fs (M.map Prod.snd) i k)), (9, .int .i64 k)]) (fun _ => []) (fun k => k ≤ fs.length) (fun k => fs.length - k) (0) (Nat.zero_le _) ?_ ?_
      · conv => whnf
        repeat' (first
          | exact trivial
          | exact rfl
          | exact pureL_ints _ _
          | exact Or.inl (And.intro rfl rfl)
          | exact le_ints rfl
          | exact pureL_ii _ _
          | exact pureL_mt _
          | refine Or.inr ?_
          | refine And.intro ?_ ?_
          | exact Nat.le_of_ble_eq_true rfl)
      · rintro k hk
        have hk : k ≤ fs.length := hk
        have htl : M.length = fs.length := by have := h.2.1; rwa [List.length_map] at this
        by_cases hlk : k < fs.length
        · obtain ⟨i3, il, ipl, ia, ib, irr⟩ := sv_facts (i := (i : Int)) h (by omega) hlk
          rw [mt_getD] at ipl ia ib irr
          have hft : (fs.getD k []).length ≤ 3 ∧ ∀ j, j < (fs.getD k []).length → 0 ≤ (fs.getD k []).getD j 0 ∧ (fs.getD k []).getD j 0 < (places zs i).length := ⟨i3, il⟩
          have ir' : 0 ≤ idxTo (M.getD k (0, [], [])).2.1 (turned (places zs i) (fs.getD k [])) (M.getD k (0, [], [])).2.1.length ∧ idxTo (M.getD k (0, [], [])).2.1 (turned (places zs i) (fs.getD k [])) (M.getD k (0, [], [])).2.1.length < (M.getD k (0, [], [])).2.2.length := by rw [ib]; exact irr
          have e : facT zs fs (M.map Prod.snd) i (k + 1) = IntKind.i64.wrap (facT zs fs (M.map Prod.snd) i k * (M.getD k (0, [], [])).2.2.getD (idxTo (M.getD k (0, [], [])).2.1 (turned (places zs i) (fs.getD k [])) (M.getD k (0, [], [])).2.1.length).toNat 0) := by rw [ib, ← mt_getD]; rfl
          conv => whnf
          repeat' (first
            | (refine plan_in (id := 11) [0, 1, 2, 3, 4, 5, 6, 7, 8, 9, 10, 11, 12, 13, 14, 15, 16, 17, 18, 19, 20, 21, 22] (by kernel_rfl) (by kernel_rfl) ?_; conv => whnf)
            | (refine plan_in (id := 12) [0, 1, 2, 3, 4, 5, 6, 7] (by kernel_rfl) (by kernel_rfl) ?_; conv => whnf)
            | (refine plan_in (id := 13) [0, 1, 2, 3, 4, 5, 6, 7, 8, 9, 10, 11] (by kernel_rfl) (by kernel_rfl) ?_; conv => whnf)
            | (refine fun (_ : _ ≤ maxLen) => ?_; conv => whnf)
            | (refine get_nat0 (by omega) ?_; conv => whnf)
            | (refine get_int (by omega) ?_; conv => whnf)
            | (refine aGet_in rfl ?_; conv => whnf)
            | (refine And.intro (by omega) ?_; conv => whnf)
            | (refine append_same ?_; conv => whnf)
            | (refine get_ii_n (by omega) ?_; conv => whnf)
            | (refine get_mt_n (by omega) rfl ?_; conv => whnf)
            | (refine And.intro (pureL_ints _ _) ?_; conv => whnf)
            | (refine cut_ints ?_; conv => whnf)
            | (refine l1Index_call (by assumption) ?_; conv => whnf)
            | (refine l1Turn_call (by assumption) ?_; conv => whnf)
            | (refine set_nat ?_ (by omega); conv => whnf)
            | (refine aIf_dec (fun _ => ?_) (fun _ => ?_) <;> conv => whnf))
          all_goals (first | (exfalso; omega) | skip)
          refine next_u (k + 1) (show fs.length - (k + 1) < fs.length - k by omega) (by exact (by omega : k + 1 ≤ fs.length)) ?_
          conv => whnf
          rw [e]
          repeat' (first
            | exact trivial
            | exact rfl
            | exact pureL_ints _ _
            | exact Or.inl (And.intro rfl rfl)
            | exact le_ints rfl
            | exact pureL_ii _ _
            | exact pureL_mt _
            | refine Or.inr ?_
            | refine And.intro ?_ ?_
            | exact Nat.le_of_ble_eq_true rfl
            | exact int_eq (by rw [IntWalk.i64_in _ (by omega)] <;> omega))
        · have he : k = fs.length := by omega
          rw [← he] at en
          conv => whnf
          repeat' (first
            | (refine plan_in (id := 11) [0, 1, 2, 3, 4, 5, 6, 7, 8, 9, 10, 11, 12, 13, 14, 15, 16, 17, 18, 19, 20, 21, 22] (by kernel_rfl) (by kernel_rfl) ?_; conv => whnf)
            | (refine plan_in (id := 12) [0, 1, 2, 3, 4, 5, 6, 7] (by kernel_rfl) (by kernel_rfl) ?_; conv => whnf)
            | (refine plan_in (id := 13) [0, 1, 2, 3, 4, 5, 6, 7, 8, 9, 10, 11] (by kernel_rfl) (by kernel_rfl) ?_; conv => whnf)
            | (refine fun (_ : _ ≤ maxLen) => ?_; conv => whnf)
            | (refine get_int0 (by omega) ?_; conv => whnf)
            | (refine aGet_in rfl ?_; conv => whnf)
            | (refine And.intro (by omega) ?_; conv => whnf)
            | (refine append_same ?_; conv => whnf)
            | (refine get_ii_n (by omega) ?_; conv => whnf)
            | (refine get_mt_n (by omega) rfl ?_; conv => whnf)
            | (refine And.intro (pureL_ints _ _) ?_; conv => whnf)
            | (refine cut_ints ?_; conv => whnf)
            | (refine l1Index_call (by assumption) ?_; conv => whnf)
            | (refine l1Turn_call (by assumption) ?_; conv => whnf)
            | (refine And.intro rfl (And.intro rfl (And.intro (by first | omega | (rw [List.length_map]; omega)) ?_)); conv => whnf)
            | (refine set_int ?_ (by omega); conv => whnf)
            | (refine aIf_dec (fun _ => ?_) (fun _ => ?_) <;> conv => whnf))
          all_goals (first | (exfalso; omega) | skip)
          refine next_u (i + 1) (show (cntTo zs zs.length).toNat - (i + 1) < (cntTo zs zs.length).toNat - i by omega) (by show ((i + 1 : Nat) : Int) ≤ _; omega) ?_
          conv => whnf
          rw [en]
          repeat' (first
            | exact trivial
            | exact rfl
            | exact pureL_ints _ _
            | exact Or.inl (And.intro rfl rfl)
            | exact le_ints rfl
            | exact pureL_ii _ _
            | exact pureL_mt _
            | refine Or.inr ?_
            | refine And.intro ?_ ?_
            | exact Nat.le_of_ble_eq_true rfl
            | exact int_eq (by rw [IntWalk.i64_in _ (by omega)] <;> omega))
    · have he : i = (cntTo zs zs.length).toNat := by omega
      conv => whnf
      repeat' (first
        | (refine plan_in (id := 11) [0, 1, 2, 3, 4, 5, 6, 7, 8, 9, 10, 11, 12, 13, 14, 15, 16, 17, 18, 19, 20, 21, 22] (by kernel_rfl) (by kernel_rfl) ?_; conv => whnf)
        | (refine plan_in (id := 12) [0, 1, 2, 3, 4, 5, 6, 7] (by kernel_rfl) (by kernel_rfl) ?_; conv => whnf)
        | (refine plan_in (id := 13) [0, 1, 2, 3, 4, 5, 6, 7, 8, 9, 10, 11] (by kernel_rfl) (by kernel_rfl) ?_; conv => whnf)
        | (refine aGet_in rfl ?_; conv => whnf)
        | (refine And.intro (by omega) ?_; conv => whnf)
        | (refine load_same ?_; conv => whnf)
        | (refine And.intro (Nat.le_of_ble_eq_true rfl) ?_; conv => whnf)
        | (refine callG_t ?_; conv => whnf)
        | (refine append_same ?_; conv => whnf)
        | (refine l1PlaceN_call (by first | omega | assumption | (refine ⟨?_, ?_⟩ <;> first | assumption | omega) | (refine ⟨?_, ?_, ?_⟩ <;> first | assumption | omega)) ?_; conv => whnf)
        | (refine takeN_in ?_; conv => whnf)
        | (refine And.intro (pureL_ints _ _) ?_; conv => whnf)
        | (refine l1Count_call ?_; conv => whnf)
        | (refine set_force ?_; conv => whnf)
        | (refine And.intro (by kernel_rfl) ?_; conv => whnf)
        | (refine aIf_dec (fun _ => ?_) (fun _ => ?_) <;> conv => whnf))
      all_goals (first | (exfalso; omega) | contradiction | skip)
      subst he
      exact retT (by decide) rfl rfl rfl hsl.symm
theorem l4Value_call {c d e g : Nat} {zs o : List Int} {fs : List (List Int)} {ts : List T2} {env : List AV} {rows : List Row} {ctr low : Nat} {k : AV → St → Prop} (hpre : svQ zs fs o ts)
    (hk : k (.agg [.ref rows.length ctr 0 (turned zs o).length, .ref (rows.length + 1) ctr 0 (svT zs fs o ts (cntTo zs zs.length).toNat).length]) ⟨env, rows ++ [⟨ctr, 3, 1, (turned zs o).map (.int .i64)⟩, ⟨ctr, 3, 1, (svT zs fs o ts (cntTo zs zs.length).toNat).map (.int .i64)⟩], ctr + 1, low⟩) :
    CallB Try.prog 77 ⟨env, rows, ctr, low⟩ [.agg [.sl c zs.length (zs.map (.int .i64)), .sl d fs.length (fs.map (slI d)), .sl e o.length (o.map (.int .i64))], .sl g ts.length (ts.flatMap (tnC g))] k := by
  have h := callT_in l4Value_sound ((c, zs, d, fs, e, o), g, ts.map fun t => (g, t)) (show svQ zs fs o ((ts.map fun t => (g, t)).map Prod.snd) by rw [mt_snd]; exact hpre) (env := env) (rows := rows) (ctr := ctr) (low := low) (k := k) (by
    show k (.agg [.ref rows.length ctr 0 (turned zs o).length, .ref (rows.length + 1) ctr 0 (svT zs fs o ((ts.map fun t => (g, t)).map Prod.snd) (cntTo zs zs.length).toNat).length]) ⟨env, rows ++ [⟨ctr, 3, 1, (turned zs o).map (.int .i64)⟩, ⟨ctr, 3, 1, (svT zs fs o ((ts.map fun t => (g, t)).map Prod.snd) (cntTo zs zs.length).toNat).map (.int .i64)⟩], ctr + 1, low⟩
    rw [mt_snd]; exact hk)
  have em : (ts.map fun t => (g, t)).flatMap mtC = ts.flatMap (tnC g) := mt_all g ts
  have h' : CallB Try.prog 77 ⟨env, rows, ctr, low⟩ [.agg [.sl c zs.length (zs.map (.int .i64)), .sl d fs.length (fs.map (slI d)), .sl e o.length (o.map (.int .i64))], .sl g (ts.map fun t => (g, t)).length ((ts.map fun t => (g, t)).flatMap mtC)] k := h
  rw [em, List.length_map] at h'
  exact h'
end Go.Proofs.Ytmgggbgejdkamaa

/- Chapter 3: lists of tensors that the laws mark. -/
namespace Go.Proofs.Ytmgggbgejdkamaa
set_option maxRecDepth 20000
open Go.RowKit Go.Am
set_option linter.unusedSimpArgs false
theorem flat_split {α : Type} {f : α → List AV} {z : Nat} (hz : ∀ x, (f x).length = z) (d : α) {l : List α} {k : Nat} (hk : k < l.length) : ∃ A B : List AV, A.length = k * z ∧ l.flatMap f = A ++ (f (l.getD k d) ++ B) ∧ ∀ y, (l.set k y).flatMap f = A ++ (f y ++ B) := by
  refine ⟨(l.take k).flatMap f, (l.drop (k + 1)).flatMap f, by rw [flat_len hz, List.length_take, Nat.min_eq_left (Nat.le_of_lt hk)], ?_, fun y => ?_⟩
  · conv => lhs; rw [← List.take_append_drop k l, List.drop_eq_getElem_cons hk]
    rw [List.flatMap_append, List.flatMap_cons]
    simp [List.getD, List.getElem?_eq_getElem hk]
  · rw [List.set_eq_take_append_cons_drop, if_pos hk, List.flatMap_append, List.flatMap_cons]
theorem get_otn_2 {t : TypeId} {k : Nat} {ns : List T2} {r : AV} {K : AV → Prop} (h : k < ns.length) (hK : K (ownI t (ns.getD k ([], [])).2)) : aGet (((ns.flatMap (tnO t)).set (0 + (k : Int).toNat * 2 + 0) r).drop (0 + (k : Int).toNat * 2 + 1)) 0 K := by
  obtain ⟨A, B, hA, e, -⟩ := flat_split (tnO_length t) ([], []) h
  refine ⟨_, ?_, hK⟩
  rw [e, List.getElem?_drop, Nat.add_zero, set_mid (i := 0) (by rw [hA]; simp) (by simp [tnO])]
  exact get_mid (i := 1) (by rw [hA]; simp) rfl
theorem get_c0 {t : TypeId} {k : Nat} {ns : List T2} {r s : AV} (h : k < ns.length) : (((ns.flatMap (tnO t)).set (0 + (k : Int).toNat * 2 + 0) r).set (0 + (k : Int).toNat * 2 + 1) s)[0 + (k : Int).toNat * 2 + 0]? = some r := by
  obtain ⟨A, B, hA, e, -⟩ := flat_split (tnO_length t) ([], []) h
  rw [e, set_mid (i := 0) (by rw [hA]; simp) (by simp [tnO]), set_mid (i := 1) (by rw [hA]; simp) (by simp [tnO])]
  exact get_mid (i := 0) (by rw [hA]; simp) rfl
theorem get_c1 {t : TypeId} {k : Nat} {ns : List T2} {r s x : AV} (h : k < ns.length) : ((((ns.flatMap (tnO t)).set (0 + (k : Int).toNat * 2 + 0) r).set (0 + (k : Int).toNat * 2 + 1) s).set (0 + (k : Int).toNat * 2 + 0) x)[0 + (k : Int).toNat * 2 + 1]? = some s := by
  obtain ⟨A, B, hA, e, -⟩ := flat_split (tnO_length t) ([], []) h
  rw [e, set_mid (i := 0) (by rw [hA]; simp) (by simp [tnO]), set_mid (i := 1) (by rw [hA]; simp) (by simp [tnO]), set_mid (i := 0) (by rw [hA]; simp) (by simp [tnO])]
  exact get_mid (i := 1) (by rw [hA]; simp) rfl
theorem le_setT {t : TypeId} {k : Nat} {ns : List T2} {r s x y : AV} {xs ys : List Int} {p : Prop} (h : k < ns.length) (hx : x = ownI t xs) (hy : y = ownI t ys) :
    (pureL (((((ns.flatMap (tnO t)).set (0 + (k : Int).toNat * 2 + 0) r).set (0 + (k : Int).toNat * 2 + 1) s).set (0 + (k : Int).toNat * 2 + 0) x).set (0 + (k : Int).toNat * 2 + 1) y) = true ∧ (ns.set k (xs, ys)).flatMap (tnO t) = ((((ns.flatMap (tnO t)).set (0 + (k : Int).toNat * 2 + 0) r).set (0 + (k : Int).toNat * 2 + 1) s).set (0 + (k : Int).toNat * 2 + 0) x).set (0 + (k : Int).toNat * 2 + 1) y) ∨ p := by
  refine le_cells ?_ (pureL_flat (tnO_pure t) _)
  obtain ⟨A, B, hA, e, e'⟩ := flat_split (tnO_length t) ([], []) h
  rw [e, e', set_mid (i := 0) (by rw [hA]; simp) (by simp [tnO]), set_mid (i := 1) (by rw [hA]; simp) (by simp [tnO]), set_mid (i := 0) (by rw [hA]; simp) (by simp [tnO]), set_mid (i := 1) (by rw [hA]; simp) (by simp [tnO]), hx, hy]
  rfl
attribute [local irreducible] aPlan aGet aIf aLoop aCall RetB NextB CallB CallG aCut aSet aAppend
/-- Tensors that hold marks, one behind the other. -/
def marksTT (m : Int) : List T2 → List T2
  | [] => []
  | t :: ts => (marks m t.1.length, marks (m + t.1.length) t.2.length) :: marksTT (m + t.1.length + t.2.length) ts
theorem marksTT_length : ∀ (m : Int) (ts : List T2), (marksTT m ts).length = ts.length
  | _, [] => rfl
  | m, t :: ts => by simp [marksTT, marksTT_length]
theorem marksTT_getD : ∀ (m : Int) (ts : List T2) (k : Nat), k < ts.length → (marksTT m ts).getD k ([], []) = (marks (m + ttot (ts.take k)) (ts.getD k ([], [])).1.length, marks (m + ttot (ts.take k) + (ts.getD k ([], [])).1.length) (ts.getD k ([], [])).2.length)
  | m, t :: ts, 0, _ => by simp [marksTT, ttot]
  | m, t :: ts, k + 1, h => by
    have h' : k < ts.length := by simpa using h
    have := marksTT_getD (m + t.1.length + t.2.length) ts k h'
    have e : ttot (t :: ts.take k) = t.1.length + t.2.length + ttot (ts.take k) := by simp [ttot]
    show (marksTT (m + t.1.length + t.2.length) ts).getD k ([], []) = (marks (m + ttot (t :: ts.take k)) (ts.getD k ([], [])).1.length, marks (m + ttot (t :: ts.take k) + (ts.getD k ([], [])).1.length) (ts.getD k ([], [])).2.length)
    rw [this, e]
    have e1 : m + (t.1.length : Int) + t.2.length + ttot (ts.take k) = m + ((t.1.length + t.2.length + ttot (ts.take k) : Nat) : Int) := by omega
    rw [e1]
def sMarkTs : CSpec := fnMR (ι := List T2 × Int) 42 2 (fun x => x.1.length) (fun x => x.1.flatMap (tnO 3)) (fun x => x.2) (fun x => x.1.length ≤ 1048576 ∧ ttot x.1 ≤ 1048576 ∧ 0 ≤ x.2 ∧ x.2 ≤ 100000000000) (fun x => x.2 + ttot x.1) (fun x => (marksTT x.2 x.1).flatMap (tnO 3))
set_option maxHeartbeats 4000000 in
theorem markTs_sound : Sound Try.prog 33 sMarkTs := by
  refine sound_of Try.func33 rfl (enters_of Try.func33 (by kernel_rfl) (by kernel_rfl)) ?_
  rintro ⟨ts, m⟩ hpre
  have hpre : ts.length ≤ 1048576 ∧ ttot ts ≤ 1048576 ∧ 0 ≤ m ∧ m ≤ 100000000000 := hpre
  have hmax : maxLen = 9223372036854775807 := rfl
  conv => whnf
  dsimp only
  repeat' (first
    | (refine append_same ?_; conv => whnf))
  refine loop_u (ι := Nat × List T2) [true, true, false, false, false, true, false, false, false, false, false, false, false, false, false, false, false, false, false, false, false, false, false, false, false, false, false] (fun | (k, _) => [(1, .int .i64 (m + ttot (ts.take k))), (5, .int .i64 k)]) (fun | (_, L) => [(0, L.flatMap (tnO 3))]) (fun | (k, L) => k ≤ ts.length ∧ L.length = ts.length ∧ (∀ j, j < k → L.getD j ([], []) = (marksTT m ts).getD j ([], [])) ∧ ∀ j, k ≤ j → L.getD j ([], []) = ts.getD j ([], [])) (fun x => ts.length - x.1) ((0, ts)) ⟨Nat.zero_le _, rfl, fun j hj => absurd hj (Nat.not_lt_zero _), fun _ _ => rfl⟩ ?_ ?_
  · conv => whnf
    repeat' (first | exact int_eq (show m = m + ttot (ts.take 0) by simp [ttot]) | exact Or.inl (And.intro (pureL_otn _ _) rfl) | refine And.intro ?_ ?_)
    repeat' (first
      | exact trivial
      | exact rfl
      | exact Nat.le_of_ble_eq_true rfl)
  · rintro ⟨k, L⟩ ⟨hk, hL, h1, h2⟩
    have hk : k ≤ ts.length := hk
    have hL : L.length = ts.length := hL
    have h1 : ∀ j, j < k → L.getD j ([], []) = (marksTT m ts).getD j ([], []) := h1
    have h2 : ∀ j, k ≤ j → L.getD j ([], []) = ts.getD j ([], []) := h2
    have ht' : ttot (ts.take k) ≤ ttot ts := sum_take_le (fun t : T2 => t.1.length + t.2.length) ts k
    by_cases hlt : k < ts.length
    · have e2 := h2 k (Nat.le_refl _)
      have hl1 : (L.getD k ([], [])).1.length = (ts.getD k ([], [])).1.length := by rw [e2]
      have hl2 : (L.getD k ([], [])).2.length = (ts.getD k ([], [])).2.length := by rw [e2]
      have hl := len_le_ttot hlt
      have hs := ttot_succ hlt
      conv => whnf
      repeat' (first
        | (refine fun (_ : _ ≤ maxLen) => ?_; conv => whnf)
        | (refine And.intro (by omega) ?_; conv => whnf)
        | (refine mark_call rfl (by rfl) (by omega) ?_; conv => whnf)
        | (refine append_same ?_; conv => whnf)
        | (refine get_otn_n (by omega) rfl ?_; conv => whnf)
        | (refine get_otn_2 (by omega) ?_; conv => whnf)
        | (refine aIf_dec (fun _ => ?_) (fun _ => ?_) <;> conv => whnf))
      all_goals (first | (exfalso; omega) | skip)
      refine next_ut (k + 1, L.set k (marks (m + ttot (ts.take k)) (L.getD k ([], [])).1.length, marks (m + ttot (ts.take k) + (L.getD k ([], [])).1.length) (L.getD k ([], [])).2.length)) (show ts.length - (k + 1) < ts.length - k by omega) ⟨(by omega : k + 1 ≤ ts.length), (by rw [List.length_set]; exact hL : (L.set k _).length = ts.length), fun j hj => ?_, fun j hj => ?_⟩ ?_
      · have hj : j < k + 1 := hj
        rw [getD_setG (by omega)]
        split
        · rename_i e; rw [← e, marksTT_getD m ts k hlt, hl1, hl2]
        · exact h1 j (by omega)
      · have hj : k + 1 ≤ j := hj
        rw [getD_setG (by omega), if_neg (by omega)]
        exact h2 j (by omega)
      · conv => whnf
        refine to_close 0 (0 + (k : Int).toNat * 2 + 0) 1 1 _ 1 3 _ _ rfl (get_c0 (by omega)) rfl (by decide) (Nat.le_of_ble_eq_true rfl) (by decide) (by simp [marks_length]) ?_
        refine to_close 0 (0 + (k : Int).toNat * 2 + 1) 2 3 _ 1 3 _ _ rfl (get_c1 (by omega)) rfl (by decide) (Nat.le_of_ble_eq_true rfl) (by decide) (by simp [marks_length]) ?_
        refine St.le.to ?_
        conv => whnf
        repeat' (first | exact le_setT (by omega) (own_marks _ _ _) (own_marks _ _ _) | exact int_eq (show m + ttot (ts.take k) + ((L.getD k ([], [])).1.length : Int) + ((L.getD k ([], [])).2.length : Int) = m + ttot (ts.take (k + 1)) by omega) | refine And.intro ?_ ?_)
        repeat' (first
          | exact trivial
          | exact rfl
          | exact Nat.le_of_ble_eq_true rfl
          | exact int_eq (by rw [IntWalk.i64_in _ (by omega)] <;> omega))
    · have e : k = ts.length := by omega
      have et := ttot_all e
      have eL : L = marksTT m ts := getD_extG (d := ([], [])) (by rw [marksTT_length]; exact hL) fun j hj => h1 j (by rw [marksTT_length] at hj; omega)
      conv => whnf
      repeat' (first
        | (refine fun (_ : _ ≤ maxLen) => ?_; conv => whnf)
        | (refine And.intro (by omega) ?_; conv => whnf)
        | (refine mark_call rfl (by rfl) (by omega) ?_; conv => whnf)
        | (refine append_same ?_; conv => whnf)
        | (refine get_otn_n (by omega) rfl ?_; conv => whnf)
        | (refine get_otn_2 (by omega) ?_; conv => whnf)
        | (refine aIf_dec (fun _ => ?_) (fun _ => ?_) <;> conv => whnf))
      all_goals (first | (exfalso; omega) | skip)
      exact retMR (protL_otn _ _) (by rw [et]) (by rw [eL])
theorem markTs_call {ts : List T2} {m : Int} {env : List AV} {rows : List Row} {ctr low τ ver n : Nat} {k : AV → St → Prop} (hr : rows[τ]? = some ⟨ver, 42, 2, ts.flatMap (tnO 3)⟩) (hn : n = ts.length) (hpre : ts.length ≤ 1048576 ∧ ttot ts ≤ 1048576 ∧ 0 ≤ m ∧ m ≤ 100000000000)
    (hk : k (.int .i64 (m + ttot ts)) ⟨env, setRows rows [τ] [(marksTT m ts).flatMap (tnO 3)], ctr + 1, low⟩) : CallG Try.prog 33 ⟨env, rows, ctr, low⟩ [.ref τ ver 0 n, .int .i64 m] k :=
  callMR_in markTs_sound (ts, m) hpre (protL_otn _ _) (protL_otn _ _) hr hn rfl hk
theorem cut_marksTT {f : Nat} {t : TypeId} {ts : List T2} {m : Int} {n : Nat} {k : List AV → Prop} (hn : n = ts.length) (hk : k ((marksTT m ts).flatMap (tnC 0))) : aCut (f + 2) ((marksTT m ts).flatMap (tnO t)) 0 (n * 2) k := cut_tn (by rw [hn, marksTT_length]) hk
end Go.Proofs.Ytmgggbgejdkamaa

/- Chapter 4: SumValue of the model, whole. -/
namespace Go.Proofs.Ytmgggbgejdkamaa
set_option maxRecDepth 20000
open Go.RowKit Go.Am
set_option linter.unusedSimpArgs false
attribute [local irreducible] aPlan aGet aIf aLoop aCall RetB NextB CallB CallG aCut aSet aAppend
set_option maxHeartbeats 4000000 in
theorem sSumValue_sound : Sound Try.prog 61 sSumValue := by
  refine sound_of Try.func61 rfl (enters_of Try.func61 (by kernel_rfl) (by kernel_rfl)) ?_
  rintro ⟨⟨c, zs, d, fs, e, o⟩, g, ts⟩ -
  have hmax : maxLen = 9223372036854775807 := rfl
  by_cases h : svP zs fs o ts
  · have hq := svP_Q h
    have hM := svM_t h
    conv => whnf
    repeat' (first
      | (refine aGet_in rfl ?_; conv => whnf)
      | (refine load_same ?_; conv => whnf)
      | (refine And.intro rfl (And.intro (List.cons_ne_nil _ _) ?_); conv => whnf)
      | (refine And.intro (Nat.le_of_ble_eq_true rfl) ?_; conv => whnf)
      | (refine l2Told_call _ _ rfl rfl (by decide) (by first | rfl | omega) (by first | rfl | omega) (fun _ => ?_) (fun _ => ?_) <;> conv => whnf)
      | (refine callG_t ?_; conv => whnf)
      | (refine append_same ?_; conv => whnf)
      | (refine And.intro (pureL_ii _ _) ?_; conv => whnf)
      | (refine And.intro (pureL_tn _ _) ?_; conv => whnf)
      | (refine l4Tensors_call trivial ?_; conv => whnf)
      | (refine l4Value_call (by assumption) ?_; conv => whnf)
      | (refine takeN_in ?_; conv => whnf)
      | (refine And.intro (pureL_ints _ _) ?_; conv => whnf)
      | (refine set_force ?_; conv => whnf)
      | (refine And.intro (by kernel_rfl) ?_; conv => whnf)
      | refine aIf_not ?_
      | (refine aIf_dec (fun _ => ?_) (fun _ => ?_) <;> conv => whnf))
    all_goals (first | (exfalso; omega) | contradiction | skip)
    · rename_i ht
      refine retTB (hM := hM.trans (told_t ht)) ?_ ?_ ?_ ?_ ?_
      all_goals (first | exact rfl | decide | (simp; done))
    · rename_i ht
      refine retTB (hM := hM.trans (told_f ht)) ?_ ?_ ?_ ?_ ?_
      all_goals (first | exact rfl | decide | (simp; done))
  · conv => whnf
    repeat' (first
      | (refine load_same ?_; conv => whnf)
      | (refine And.intro rfl (And.intro (List.cons_ne_nil _ _) ?_); conv => whnf)
      | (refine And.intro (Nat.le_of_ble_eq_true rfl) ?_; conv => whnf)
      | (refine callG_t ?_; conv => whnf)
      | (refine append_same ?_; conv => whnf)
      | (refine And.intro (pureL_ii _ _) ?_; conv => whnf)
      | (refine And.intro (pureL_tn _ _) ?_; conv => whnf)
      | (refine l4Tensors_call trivial ?_; conv => whnf)
      | (refine takeN_in ?_; conv => whnf)
      | (refine And.intro (pureL_ints _ _) ?_; conv => whnf)
      | (refine set_force ?_; conv => whnf)
      | (refine And.intro (by kernel_rfl) ?_; conv => whnf)
      | refine aIf_not ?_
      | (refine aIf_dec (fun _ => ?_) (fun _ => ?_) <;> conv => whnf))
    all_goals (first | contradiction | skip)
    refine retTB (hM := svM_f h) ?_ ?_ ?_ ?_ ?_
    all_goals (first | exact rfl | decide | (simp; done))
theorem sSumValue_call {c d e g : Nat} {zs o : List Int} {fs : List (List Int)} {ts : List T2} {env : List AV} {rows : List Row} {ctr low : Nat} {k : AV → St → Prop} (hpre : True)
    (hk : k (.tup [.agg [.ref rows.length ctr 0 (svM zs fs o ts).1.length, .ref (rows.length + 1) ctr 0 (svM zs fs o ts).2.1.length], .bool (svM zs fs o ts).2.2]) ⟨env, rows ++ [⟨ctr, 3, 1, (svM zs fs o ts).1.map (.int .i64)⟩, ⟨ctr, 3, 1, (svM zs fs o ts).2.1.map (.int .i64)⟩], ctr + 1, low⟩) :
    CallB Try.prog 61 ⟨env, rows, ctr, low⟩ [.agg [.sl c zs.length (zs.map (.int .i64)), .sl d fs.length (fs.map (slI d)), .sl e o.length (o.map (.int .i64))], .sl g ts.length (ts.flatMap (tnC g))] k := callTB_in sSumValue_sound ((c, zs, d, fs, e, o), g, ts) hpre hk
theorem iSumValue_call {c d e g : Nat} {zs o : List Int} {fs : List (List Int)} {ts : List T2} {env : List AV} {rows : List Row} {ctr low : Nat} {k : AV → St → Prop} (hpre : True)
    (hk : k (.tup [.agg [.ref rows.length ctr 0 (svM zs fs o ts).1.length, .ref (rows.length + 1) ctr 0 (svM zs fs o ts).2.1.length], .bool (svM zs fs o ts).2.2]) ⟨env, rows ++ [⟨ctr, 3, 1, (svM zs fs o ts).1.map (.int .i64)⟩, ⟨ctr, 3, 1, (svM zs fs o ts).2.1.map (.int .i64)⟩], ctr + 1, low⟩) :
    CallB Try.prog 62 ⟨env, rows, ctr, low⟩ [.agg [.sl c zs.length (zs.map (.int .i64)), .sl d fs.length (fs.map (slI d)), .sl e o.length (o.map (.int .i64))], .sl g ts.length (ts.flatMap (tnC g))] k := callTB_in iSumValue_sound ((c, zs, d, fs, e, o), g, ts) hpre hk
end Go.Proofs.Ytmgggbgejdkamaa

/- Lists of tensors as a law's arguments. -/
namespace Go.Proofs.Ytmgggbgejdkamaa
set_option maxRecDepth 20000
open Go.RowKit Go.Am Go.WideShapes Go.ChangeShapes
theorem uTes : Try.prog.underlying 39 = some (.slice 83) := by kernel_rfl
theorem cell_te2 : Try.prog.cellsOf 83 = 2 := by kernel_rfl
theorem tensFs : fieldsAre Try.prog 83 [(22, 0), (22, 1)] = true := by kernel_rfl
theorem cells_tn (us : List AV) (h : CellsOk Try.prog 83 us) : ∃ n : T2, us = tnC 1 n ∧ True := by
  obtain ⟨hl, hf⟩ := fields_ok tensFs h
  rw [cell_te2] at hl
  match us, hl with
  | [a, b], _ =>
    have h0 := hf (22, 0) (by simp)
    have h1 := hf (22, 1) (by simp)
    simp only [cell_ints1] at h0 h1
    obtain ⟨xs, e0, -⟩ := cellsInts uInts uInt h0
    obtain ⟨zs, e1, -⟩ := cellsInts uInts uInt h1
    simp at e0 e1
    exact ⟨(xs, zs), by rw [e0, e1]; rfl, trivial⟩
theorem argTs {av : AV} (h : ArgR Try.prog 39 av) : ∃ ts : List T2, av = .sl 1 ts.length (ts.flatMap (tnC 1)) := by
  unfold ArgR at h
  rw [uTes] at h
  obtain ⟨ts, e, -⟩ := cells_slice uTes h cells_tn
  exact ⟨ts, by simpa using e⟩
end Go.Proofs.Ytmgggbgejdkamaa
